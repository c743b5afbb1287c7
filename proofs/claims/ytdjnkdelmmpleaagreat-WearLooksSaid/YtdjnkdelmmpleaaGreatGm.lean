/-
  REF: Until, Day.
  REF: Size, Clash.
-/
import Derived.Test.YtdjnkdelmmpleaaGreatGl
import Derived.Test.YtdjnkdelmmpleaaGreatGh
namespace Go.Proofs.YtdjnkdelmmpleaaGreat
open Go.RowKit Go.Proofs.Tryz


theorem until_eq {p : Wb} (hF : p.n.Fine) (hcan : p.n.can = true) {m : Int} (hm : spI (m, m) (-1000) 1000 = true) {n : Int} (h0 : 0 ≤ n) (h1 : n ≤ 100) (h2 : (mC p.n p.es.length).1 - n * p.uh ≥ m) (h3 : n < 100 → (mC p.n p.es.length).1 - (n + 1) * p.uh < m) : inA (untilR p m) = n ∧ erA (untilR p m) = 0 := by
  have hu1 : 0 ≤ p.uh := by have h1 : 0 ≤ p.ul ∧ p.ul ≤ p.uh ∧ p.uh ≤ 3 := hF.u; omega
  have hn := Int.mul_nonneg h0 hu1
  rcases until_is hF hcan hm rfl rfl with h | h
  · refine ⟨?_, h.2.1⟩
    obtain ⟨u, hu⟩ : ∃ u, inA (untilR p m) = u := ⟨_, rfl⟩
    rw [hu] at h ⊢
    rcases Int.lt_trichotomy u n with h4 | h4 | h4
    · have h5 := h.2.2.2.2.2.1 (by omega)
      have h6 : (u + 1) * p.uh ≤ n * p.uh := Int.mul_le_mul_of_nonneg_right (by omega) hu1
      omega
    · exact h4
    · have h5 := h3 (by omega)
      have h6 : (n + 1) * p.uh ≤ u * p.uh := Int.mul_le_mul_of_nonneg_right (by omega) hu1
      omega
  · omega
theorem until_none {p : Wb} (hF : p.n.Fine) (hcan : p.n.can = true) {m : Int} (hm : spI (m, m) (-1000) 1000 = true) (h : (mC p.n p.es.length).1 < m) : inA (untilR p m) = 0 ∧ erA (untilR p m) = 4 := by
  rcases until_is hF hcan hm rfl rfl with h2 | h2
  · omega
  · exact ⟨h2.2.2, h2.2.1⟩
set_option maxRecDepth 100000 in
theorem rUntil_any (p : Wb) (m : Int) (w : World) (hp : p.In w) : Calls Tryz.prog 23 #[.agg #[.int .i64 p.ll, .int .i64 p.lh, .int .i64 p.ul, .int .i64 p.uh, .slice p.ea p.es.length p.ec], .int .i64 m] w (Ret (.tuple #[.int .i64 (inA (untilR p m)), .int .i64 (erA (untilR p m))]) w) := by
  refine calls_run (fn := f23) (c := (f23.body).getD .skip) [.agg #[.int .i64 p.ll, .int .i64 p.lh, .int .i64 p.ul, .int .i64 p.uh, .slice p.ea p.es.length p.ec], .int .i64 m] func23 (by kernel_rfl) (fun _ => False) [] (fun _ h => by cases h) (List.Pairwise.nil) 42 (by kernel_rfl) (by simp) ?_
  refine run_auto [] 2 [] [] [0, 1] [] (st' := ⟨[(0, .agg #[iV p.ll, iV p.lh, iV p.ul, iV p.uh, .slice p.ea p.es.length p.ec]), (1, iV m)], []⟩) (acc := []) (by kernel_rfl) (by kernel_rfl) trivial ?_
  refine run_new (aO #[iV p.ll, iV p.lh, iV p.ul, iV p.uh, .slice p.ea p.es.length p.ec] 26) (fun b1 => pA b1) (some 2) (fun _ => by kernel_rfl) (fun b1 hb1 => ?_)
  refine run_auto [] 4 [] [] [1, 2, 4, 5] [0] (st' := ⟨[(1, iV m), (2, pA b1), (4, iV 0), (5, iV 0)], [(b1, aO #[iV p.ll, iV p.lh, iV p.ul, iV p.uh, .slice p.ea p.es.length p.ec] 26)]⟩) (acc := []) (by kernel_rfl) (by kernel_rfl) trivial ?_
  cases hd1 : (spI (m, m) (-1000) 1000) with
  | false =>
    cases hd2 : p.n.ok with
    | false =>
      refine drawW 5 [{ val := fun _ => .agg #[iV p.ll, iV p.lh, iV p.ul, iV p.uh, .slice p.ea p.es.length p.ec], slots := [2], reads := [0] },
              { val := fun _ => iV m, slots := [1] },
              { val := fun _ => .bool false, slots := [10] },
              { val := fun _ => iV 1, slots := [9, 11] },
              { val := fun _ => iV 1, slots := [12] }] [[], [], [1], [0, 1, 2], [0, 1, 2, 3]] (by kernel_rfl) (by kernel_rfl) (by kernel_rfl) (by kernel_rfl) [1, 2, 4, 5, 6] [0] (by kernel_rfl)
              ⟨⟨⟨⟨⟨trivial,
              tri_quietW (fun β => []) [0] [0] (fun β => [(pA b1, pA b1)]) (by kernel_rfl) (fun β extra => by kernel_rfl) (by kernel_rfl) (fun β => ⟨rfl, trivial⟩)⟩,
              tri_quietW (fun β => []) [] [] (fun β => []) (by kernel_rfl) (fun β extra => by kernel_rfl) (by kernel_rfl) (fun β => trivial)⟩,
              tri_callVW (fun β => .bool false) (fun β => by kernel_rfl) 59 (fun β => #[iV m]) (by kernel_rfl) (fun β extra => by kernel_rfl) (fun β => by kernel_rfl) (fun β w1 k1 h1 => (by have h := rlimit_any m w1; rw [hd1] at h; exact h))⟩,
              tri_callVW (fun β => iV 1) (fun β => by kernel_rfl) 46 (fun β => #[.agg #[iV p.ll, iV p.lh, iV p.ul, iV p.uh, .slice p.ea p.es.length p.ec], iV 0, .bool false]) (by kernel_rfl) (fun β extra => by kernel_rfl) (fun β => by kernel_rfl) (fun β w1 k1 h1 => (by have h := check_any p 0 false w1 (hp.keep (k1.keeps (fun _ h => h))); rw [show chkR p 0 false = 1 from by unfold chkR; rw [hd2]; rfl] at h; exact h))⟩,
              tri_quietW (fun β => []) [] [] (fun β => []) (by kernel_rfl) (fun β extra => by kernel_rfl) (by kernel_rfl) (fun β => trivial)⟩
              (fun β => ⟨[(1, iV m), (2, pA b1), (4, iV 0), (5, iV 0), (6, iV 1)], [(b1, aO #[iV p.ll, iV p.lh, iV p.ul, iV p.uh, .slice p.ea p.es.length p.ec] 26)]⟩) (fun β => by kernel_rfl) (fun β2 => ?_)
      refine run_auto [(14, .bool true)] 13 [true] [] [1, 2, 4, 5] [0] (st' := ⟨[(1, iV m), (2, pA b1), (4, iV 0), (5, iV 1)], [(b1, aO #[iV p.ll, iV p.lh, iV p.ul, iV p.uh, .slice p.ea p.es.length p.ec] 26)]⟩) (acc := [(.bool true, .bool true), (.bool true, .bool true)]) (by kernel_rfl) (by kernel_rfl) ⟨rfl, rfl, trivial⟩ ?_
      refine run_end (fn := f23) rfl (Nat.le_refl _) (by kernel_rfl) [] [iV 0, iV 1] (e := []) (by kernel_rfl) trivial (fun w1 k1 h1 => ?_)
      unfold untilR
      rw [hd2, hd1]
      exact ⟨rfl, k1.keeps (fun _ h => h)⟩
    | true =>
      have hF := Wn.fine hd2
      have hn8 : p.es.length ≤ 8 := hF.n8
      have hal := all_lt hF
      have hl0 : 0 ≤ p.ll ∧ p.ll ≤ p.lh ∧ p.lh ≤ 300 := hF.l
      refine drawW 5 [{ val := fun _ => .agg #[iV p.ll, iV p.lh, iV p.ul, iV p.uh, .slice p.ea p.es.length p.ec], slots := [2], reads := [0] },
              { val := fun _ => iV m, slots := [1] },
              { val := fun _ => .bool false, slots := [10] },
              { val := fun _ => iV 2, slots := [9, 11] },
              { val := fun _ => iV 2, slots := [12] }] [[], [], [1], [0, 1, 2], [0, 1, 2, 3]] (by kernel_rfl) (by kernel_rfl) (by kernel_rfl) (by kernel_rfl) [1, 2, 4, 5, 6] [0] (by kernel_rfl)
              ⟨⟨⟨⟨⟨trivial,
              tri_quietW (fun β => []) [0] [0] (fun β => [(pA b1, pA b1)]) (by kernel_rfl) (fun β extra => by kernel_rfl) (by kernel_rfl) (fun β => ⟨rfl, trivial⟩)⟩,
              tri_quietW (fun β => []) [] [] (fun β => []) (by kernel_rfl) (fun β extra => by kernel_rfl) (by kernel_rfl) (fun β => trivial)⟩,
              tri_callVW (fun β => .bool false) (fun β => by kernel_rfl) 59 (fun β => #[iV m]) (by kernel_rfl) (fun β extra => by kernel_rfl) (fun β => by kernel_rfl) (fun β w1 k1 h1 => (by have h := rlimit_any m w1; rw [hd1] at h; exact h))⟩,
              tri_callVW (fun β => iV 2) (fun β => by kernel_rfl) 46 (fun β => #[.agg #[iV p.ll, iV p.lh, iV p.ul, iV p.uh, .slice p.ea p.es.length p.ec], iV 0, .bool false]) (by kernel_rfl) (fun β extra => by kernel_rfl) (fun β => by kernel_rfl) (fun β w1 k1 h1 => (by have h := check_any p 0 false w1 (hp.keep (k1.keeps (fun _ h => h))); rw [show chkR p 0 false = 2 from by unfold chkR; rw [hd2]; rfl] at h; exact h))⟩,
              tri_quietW (fun β => []) [] [] (fun β => []) (by kernel_rfl) (fun β extra => by kernel_rfl) (by kernel_rfl) (fun β => trivial)⟩
              (fun β => ⟨[(1, iV m), (2, pA b1), (4, iV 0), (5, iV 0), (6, iV 2)], [(b1, aO #[iV p.ll, iV p.lh, iV p.ul, iV p.uh, .slice p.ea p.es.length p.ec] 26)]⟩) (fun β => by kernel_rfl) (fun β2 => ?_)
      refine run_auto [(14, .bool true)] 13 [true] [] [1, 2, 4, 5] [0] (st' := ⟨[(1, iV m), (2, pA b1), (4, iV 0), (5, iV 2)], [(b1, aO #[iV p.ll, iV p.lh, iV p.ul, iV p.uh, .slice p.ea p.es.length p.ec] 26)]⟩) (acc := [(.bool true, .bool true), (.bool true, .bool true)]) (by kernel_rfl) (by kernel_rfl) ⟨rfl, rfl, trivial⟩ ?_
      refine run_end (fn := f23) rfl (Nat.le_refl _) (by kernel_rfl) [] [iV 0, iV 2] (e := []) (by kernel_rfl) trivial (fun w1 k1 h1 => ?_)
      unfold untilR
      rw [hd2, hd1]
      exact ⟨rfl, k1.keeps (fun _ h => h)⟩
  | true =>
    cases hd2 : p.n.ok with
    | false =>
      refine drawW 5 [{ val := fun _ => .agg #[iV p.ll, iV p.lh, iV p.ul, iV p.uh, .slice p.ea p.es.length p.ec], slots := [2], reads := [0] },
              { val := fun _ => iV m, slots := [1] },
              { val := fun _ => .bool true, slots := [10] },
              { val := fun _ => iV 1, slots := [9, 11] },
              { val := fun _ => iV 1, slots := [12] }] [[], [], [1], [0, 1, 2], [0, 1, 2, 3]] (by kernel_rfl) (by kernel_rfl) (by kernel_rfl) (by kernel_rfl) [1, 2, 4, 5, 6] [0] (by kernel_rfl)
              ⟨⟨⟨⟨⟨trivial,
              tri_quietW (fun β => []) [0] [0] (fun β => [(pA b1, pA b1)]) (by kernel_rfl) (fun β extra => by kernel_rfl) (by kernel_rfl) (fun β => ⟨rfl, trivial⟩)⟩,
              tri_quietW (fun β => []) [] [] (fun β => []) (by kernel_rfl) (fun β extra => by kernel_rfl) (by kernel_rfl) (fun β => trivial)⟩,
              tri_callVW (fun β => .bool true) (fun β => by kernel_rfl) 59 (fun β => #[iV m]) (by kernel_rfl) (fun β extra => by kernel_rfl) (fun β => by kernel_rfl) (fun β w1 k1 h1 => (by have h := rlimit_any m w1; rw [hd1] at h; exact h))⟩,
              tri_callVW (fun β => iV 1) (fun β => by kernel_rfl) 46 (fun β => #[.agg #[iV p.ll, iV p.lh, iV p.ul, iV p.uh, .slice p.ea p.es.length p.ec], iV 0, .bool true]) (by kernel_rfl) (fun β extra => by kernel_rfl) (fun β => by kernel_rfl) (fun β w1 k1 h1 => (by have h := check_any p 0 true w1 (hp.keep (k1.keeps (fun _ h => h))); rw [show chkR p 0 true = 1 from by unfold chkR; rw [hd2]; rfl] at h; exact h))⟩,
              tri_quietW (fun β => []) [] [] (fun β => []) (by kernel_rfl) (fun β extra => by kernel_rfl) (by kernel_rfl) (fun β => trivial)⟩
              (fun β => ⟨[(1, iV m), (2, pA b1), (4, iV 0), (5, iV 0), (6, iV 1)], [(b1, aO #[iV p.ll, iV p.lh, iV p.ul, iV p.uh, .slice p.ea p.es.length p.ec] 26)]⟩) (fun β => by kernel_rfl) (fun β2 => ?_)
      refine run_auto [(14, .bool true)] 13 [true] [] [1, 2, 4, 5] [0] (st' := ⟨[(1, iV m), (2, pA b1), (4, iV 0), (5, iV 1)], [(b1, aO #[iV p.ll, iV p.lh, iV p.ul, iV p.uh, .slice p.ea p.es.length p.ec] 26)]⟩) (acc := [(.bool true, .bool true), (.bool true, .bool true)]) (by kernel_rfl) (by kernel_rfl) ⟨rfl, rfl, trivial⟩ ?_
      refine run_end (fn := f23) rfl (Nat.le_refl _) (by kernel_rfl) [] [iV 0, iV 1] (e := []) (by kernel_rfl) trivial (fun w1 k1 h1 => ?_)
      unfold untilR
      rw [hd2, hd1]
      exact ⟨rfl, k1.keeps (fun _ h => h)⟩
    | true =>
      have hF := Wn.fine hd2
      have hn8 : p.es.length ≤ 8 := hF.n8
      have hal := all_lt hF
      have hl0 : 0 ≤ p.ll ∧ p.ll ≤ p.lh ∧ p.lh ≤ 300 := hF.l
      cases hd3 : p.n.can with
      | false =>
        refine drawW 5 [{ val := fun _ => .agg #[iV p.ll, iV p.lh, iV p.ul, iV p.uh, .slice p.ea p.es.length p.ec], slots := [2], reads := [0] },
                  { val := fun _ => iV m, slots := [1] },
                  { val := fun _ => .bool true, slots := [10] },
                  { val := fun _ => iV 10, slots := [9, 11] },
                  { val := fun _ => iV 10, slots := [12] }] [[], [], [1], [0, 1, 2], [0, 1, 2, 3]] (by kernel_rfl) (by kernel_rfl) (by kernel_rfl) (by kernel_rfl) [1, 2, 4, 5, 6] [0] (by kernel_rfl)
                  ⟨⟨⟨⟨⟨trivial,
                  tri_quietW (fun β => []) [0] [0] (fun β => [(pA b1, pA b1)]) (by kernel_rfl) (fun β extra => by kernel_rfl) (by kernel_rfl) (fun β => ⟨rfl, trivial⟩)⟩,
                  tri_quietW (fun β => []) [] [] (fun β => []) (by kernel_rfl) (fun β extra => by kernel_rfl) (by kernel_rfl) (fun β => trivial)⟩,
                  tri_callVW (fun β => .bool true) (fun β => by kernel_rfl) 59 (fun β => #[iV m]) (by kernel_rfl) (fun β extra => by kernel_rfl) (fun β => by kernel_rfl) (fun β w1 k1 h1 => (by have h := rlimit_any m w1; rw [hd1] at h; exact h))⟩,
                  tri_callVW (fun β => iV 10) (fun β => by kernel_rfl) 46 (fun β => #[.agg #[iV p.ll, iV p.lh, iV p.ul, iV p.uh, .slice p.ea p.es.length p.ec], iV 0, .bool true]) (by kernel_rfl) (fun β extra => by kernel_rfl) (fun β => by kernel_rfl) (fun β w1 k1 h1 => (by have h := check_any p 0 true w1 (hp.keep (k1.keeps (fun _ h => h))); rw [show chkR p 0 true = 10 from by unfold chkR; rw [hd2, hd3]; rfl] at h; exact h))⟩,
                  tri_quietW (fun β => []) [] [] (fun β => []) (by kernel_rfl) (fun β extra => by kernel_rfl) (by kernel_rfl) (fun β => trivial)⟩
                  (fun β => ⟨[(1, iV m), (2, pA b1), (4, iV 0), (5, iV 0), (6, iV 10)], [(b1, aO #[iV p.ll, iV p.lh, iV p.ul, iV p.uh, .slice p.ea p.es.length p.ec] 26)]⟩) (fun β => by kernel_rfl) (fun β2 => ?_)
        refine run_auto [(14, .bool true)] 13 [true] [] [1, 2, 4, 5] [0] (st' := ⟨[(1, iV m), (2, pA b1), (4, iV 0), (5, iV 10)], [(b1, aO #[iV p.ll, iV p.lh, iV p.ul, iV p.uh, .slice p.ea p.es.length p.ec] 26)]⟩) (acc := [(.bool true, .bool true), (.bool true, .bool true)]) (by kernel_rfl) (by kernel_rfl) ⟨rfl, rfl, trivial⟩ ?_
        refine run_end (fn := f23) rfl (Nat.le_refl _) (by kernel_rfl) [] [iV 0, iV 10] (e := []) (by kernel_rfl) trivial (fun w1 k1 h1 => ?_)
        unfold untilR
        rw [hd2, hd1, hd3]
        exact ⟨rfl, k1.keeps (fun _ h => h)⟩
      | true =>
        have hKb := mC_bd hF (Nat.le_refl p.es.length)
        unfold bdS at hKb
        have hu0 : 0 ≤ p.ul ∧ p.ul ≤ p.uh ∧ p.uh ≤ 3 := hF.u
        refine drawW 5 [{ val := fun _ => .agg #[iV p.ll, iV p.lh, iV p.ul, iV p.uh, .slice p.ea p.es.length p.ec], slots := [2], reads := [0] },
                  { val := fun _ => iV m, slots := [1] },
                  { val := fun _ => .bool true, slots := [10] },
                  { val := fun _ => iV 0, slots := [9, 11] },
                  { val := fun _ => iV 0, slots := [12] }] [[], [], [1], [0, 1, 2], [0, 1, 2, 3]] (by kernel_rfl) (by kernel_rfl) (by kernel_rfl) (by kernel_rfl) [1, 2, 4, 5, 6] [0] (by kernel_rfl)
                  ⟨⟨⟨⟨⟨trivial,
                  tri_quietW (fun β => []) [0] [0] (fun β => [(pA b1, pA b1)]) (by kernel_rfl) (fun β extra => by kernel_rfl) (by kernel_rfl) (fun β => ⟨rfl, trivial⟩)⟩,
                  tri_quietW (fun β => []) [] [] (fun β => []) (by kernel_rfl) (fun β extra => by kernel_rfl) (by kernel_rfl) (fun β => trivial)⟩,
                  tri_callVW (fun β => .bool true) (fun β => by kernel_rfl) 59 (fun β => #[iV m]) (by kernel_rfl) (fun β extra => by kernel_rfl) (fun β => by kernel_rfl) (fun β w1 k1 h1 => (by have h := rlimit_any m w1; rw [hd1] at h; exact h))⟩,
                  tri_callVW (fun β => iV 0) (fun β => by kernel_rfl) 46 (fun β => #[.agg #[iV p.ll, iV p.lh, iV p.ul, iV p.uh, .slice p.ea p.es.length p.ec], iV 0, .bool true]) (by kernel_rfl) (fun β extra => by kernel_rfl) (fun β => by kernel_rfl) (fun β w1 k1 h1 => (by have h := check_any p 0 true w1 (hp.keep (k1.keeps (fun _ h => h))); rw [show chkR p 0 true = 0 from by unfold chkR; rw [hd2, hd3]; rfl] at h; exact h))⟩,
                  tri_quietW (fun β => []) [] [] (fun β => []) (by kernel_rfl) (fun β extra => by kernel_rfl) (by kernel_rfl) (fun β => trivial)⟩
                  (fun β => ⟨[(1, iV m), (2, pA b1), (4, iV 0), (5, iV 0), (6, iV 0)], [(b1, aO #[iV p.ll, iV p.lh, iV p.ul, iV p.uh, .slice p.ea p.es.length p.ec] 26)]⟩) (fun β => by kernel_rfl) (fun β2 => ?_)
        refine run_auto [(14, .bool false)] 14 [false] [0, 0] [1, 2, 4, 5, 16, 19] [0] (st' := ⟨[(1, iV m), (2, pA b1), (4, iV 0), (5, iV 0), (16, .agg #[iV p.ll, iV p.lh, iV p.ul, iV p.uh, .slice p.ea p.es.length p.ec]), (19, iV (p.es.length : Int))], [(b1, aO #[iV p.ll, iV p.lh, iV p.ul, iV p.uh, .slice p.ea p.es.length p.ec] 26)]⟩) (acc := [(pA b1, pA b1), (pA b1, pA b1), (.bool false, .bool false), (.bool false, .bool false)]) (by kernel_rfl) (by kernel_rfl) ⟨rfl, rfl, rfl, rfl, trivial⟩ ?_
        refine run_ret1 48 #[.agg #[iV p.ll, iV p.lh, iV p.ul, iV p.uh, .slice p.ea p.es.length p.ec], iV (p.es.length : Int)] (some 20) (.agg #[iV (mC p.n p.es.length).1, iV (mC p.n p.es.length).2]) (by kernel_rfl) (fun w1 k1 h1 => rafter_any p p.es.length w1 (hp.keep (k1.keeps (fun _ h => h))) hF hd3 (by omega)) ?_
        cases hd4 : (decide ((mC p.n p.es.length).1 < m)) with
        | false =>
          have hp4 := of_decide_eq_false hd4
          refine run_auto [(24, .bool false)] 18 [false] [] [1, 2, 4, 5, 7, 8] [0] (st' := ⟨[(1, iV m), (2, pA b1), (4, iV 0), (5, iV 0), (7, iV (mC p.n p.es.length).1), (8, iV 0)], [(b1, aO #[iV p.ll, iV p.lh, iV p.ul, iV p.uh, .slice p.ea p.es.length p.ec] 26)]⟩) (acc := [(.bool false, .bool false), (.bool (decide ((mC p.n p.es.length).1 < m)), .bool false)]) (by kernel_rfl) (by kernel_rfl) ⟨rfl, (bo hd4), trivial⟩ ?_
          refine run_auto [] 0 [] [] [1, 2, 4, 5, 7, 8] [0] (st' := ⟨[(1, iV m), (2, pA b1), (4, iV 0), (5, iV 0), (7, iV (mC p.n p.es.length).1), (8, iV 0)], [(b1, aO #[iV p.ll, iV p.lh, iV p.ul, iV p.uh, .slice p.ea p.es.length p.ec] 26)]⟩) (acc := []) (by kernel_rfl) (by kernel_rfl) trivial ?_
          refine run_loop (S := fun (n : Nat) => ⟨[(1, iV m), (2, pA b1), (4, iV 0), (5, iV 0), (7, iV (mC p.n p.es.length).1), (8, iV (n : Int))], [(b1, aO #[iV p.ll, iV p.lh, iV p.ul, iV p.uh, .slice p.ea p.es.length p.ec] 26)]⟩) (fun n => n ≤ 100 ∧ (mC p.n p.es.length).1 - (n : Int) * p.uh ≥ m) (fun n => 100 - n) (0) (by kernel_rfl) (⟨Nat.zero_le _, by rw [show ((0 : Nat) : Int) * p.uh = 0 from Int.zero_mul _]; omega⟩) (by simp) (fun n hI0 J0 hJ0 => ?_)
          obtain ⟨hn1, hn2⟩ := hI0
          have hm2 : ((n + 1 : Nat) : Int) = (n : Int) + 1 := by omega
          have hm1 : 0 ≤ ((n + 1 : Nat) : Int) * p.uh ∧ ((n + 1 : Nat) : Int) * p.uh ≤ ((n + 1 : Nat) : Int) * 3 := ⟨Int.mul_nonneg (by omega) (by omega), Int.mul_le_mul_of_nonneg_left hu0.2.2 (by omega)⟩
          cases hd5 : (decide ((n : Int) < 100)) with
          | false =>
            have hp5 := of_decide_eq_false hd5
            refine run_auto [(26, .bool false)] 26 [false] [] [4, 5] [] (st' := ⟨[(4, iV (n : Int)), (5, iV 0)], []⟩) (acc := [(.bool false, .bool false), (.bool (decide ((n : Int) < 100)), .bool false)]) (by kernel_rfl) (by kernel_rfl) ⟨rfl, (bo hd5), trivial⟩ ?_
            refine run_end (fn := f23) rfl (Nat.le_refl _) (by kernel_rfl) [] [iV (n : Int), iV 0] (e := []) (by kernel_rfl) trivial (fun w1 k1 h1 => ?_)
            have hq := until_eq hF hd3 hd1 (n := (n : Int)) (by omega) (by omega) hn2 (fun h => by rw [← hm2]; omega)
            rw [hq.1, hq.2]
            exact ⟨rfl, k1.keeps (fun _ h => h)⟩
          | true =>
            have hp5 := of_decide_eq_true hd5
            cases hd6 : (decide (m ≤ ((mC p.n p.es.length).1 - (((n + 1 : Nat) : Int) * p.uh)))) with
            | false =>
              have hp6 := of_decide_eq_false hd6
              refine run_auto [(26, .bool true), (30, iV ((n + 1 : Nat) : Int)), (34, iV (((n + 1 : Nat) : Int) * p.uh)), (35, iV ((mC p.n p.es.length).1 - (((n + 1 : Nat) : Int) * p.uh))), (37, .bool false)] 26 [false] [0] [4, 5] [] (st' := ⟨[(4, iV (n : Int)), (5, iV 0)], []⟩) (acc := [(.bool false, .bool false), (.bool (decide (m ≤ ((mC p.n p.es.length).1 - (((n + 1 : Nat) : Int) * p.uh)))), .bool false), (iV (IntKind.i64.wrap ((mC p.n p.es.length).1 - (((n + 1 : Nat) : Int) * p.uh))), iV ((mC p.n p.es.length).1 - (((n + 1 : Nat) : Int) * p.uh))), (iV (IntKind.i64.wrap (((n + 1 : Nat) : Int) * p.uh)), iV (((n + 1 : Nat) : Int) * p.uh)), (pA b1, pA b1), (iV (IntKind.i64.wrap ((n : Int) + 1)), iV ((n + 1 : Nat) : Int)), (.bool (decide ((n : Int) < 100)), .bool true)]) (by kernel_rfl) (by kernel_rfl) ⟨rfl, (bo hd6), (wr (by omega) (by omega)), (wr (by omega) (by omega)), rfl, (wr (by omega) (by omega)), (bo hd5), trivial⟩ ?_
              refine run_end (fn := f23) rfl (Nat.le_refl _) (by kernel_rfl) [] [iV (n : Int), iV 0] (e := []) (by kernel_rfl) trivial (fun w1 k1 h1 => ?_)
              have hq := until_eq hF hd3 hd1 (n := (n : Int)) (by omega) (by omega) hn2 (fun h => by rw [← hm2]; omega)
              rw [hq.1, hq.2]
              exact ⟨rfl, k1.keeps (fun _ h => h)⟩
            | true =>
              have hp6 := of_decide_eq_true hd6
              refine run_auto [(26, .bool true), (30, iV ((n + 1 : Nat) : Int)), (34, iV (((n + 1 : Nat) : Int) * p.uh)), (35, iV ((mC p.n p.es.length).1 - (((n + 1 : Nat) : Int) * p.uh))), (37, .bool true), (40, iV ((n + 1 : Nat) : Int))] 27 [true] [0] [1, 2, 4, 5, 7, 8] [0] (st' := ⟨[(1, iV m), (2, pA b1), (4, iV 0), (5, iV 0), (7, iV (mC p.n p.es.length).1), (8, iV ((n + 1 : Nat) : Int))], [(b1, aO #[iV p.ll, iV p.lh, iV p.ul, iV p.uh, .slice p.ea p.es.length p.ec] 26)]⟩) (acc := [(iV (IntKind.i64.wrap ((n : Int) + 1)), iV ((n + 1 : Nat) : Int)), (.bool true, .bool true), (.bool (decide (m ≤ ((mC p.n p.es.length).1 - (((n + 1 : Nat) : Int) * p.uh)))), .bool true), (iV (IntKind.i64.wrap ((mC p.n p.es.length).1 - (((n + 1 : Nat) : Int) * p.uh))), iV ((mC p.n p.es.length).1 - (((n + 1 : Nat) : Int) * p.uh))), (iV (IntKind.i64.wrap (((n + 1 : Nat) : Int) * p.uh)), iV (((n + 1 : Nat) : Int) * p.uh)), (pA b1, pA b1), (iV (IntKind.i64.wrap ((n : Int) + 1)), iV ((n + 1 : Nat) : Int)), (.bool (decide ((n : Int) < 100)), .bool true)]) (by kernel_rfl) (by kernel_rfl) ⟨(wr (by omega) (by omega)), rfl, (bo hd6), (wr (by omega) (by omega)), (wr (by omega) (by omega)), rfl, (wr (by omega) (by omega)), (bo hd5), trivial⟩ ?_
              exact run_round (by kernel_rfl) (hJ0 (n + 1) (⟨by omega, by omega⟩) (by omega))
        | true =>
          have hp4 := of_decide_eq_true hd4
          refine run_auto [(24, .bool true)] 16 [true] [] [1, 2, 4, 5, 7] [0] (st' := ⟨[(1, iV m), (2, pA b1), (4, iV 0), (5, iV 4), (7, iV (mC p.n p.es.length).1)], [(b1, aO #[iV p.ll, iV p.lh, iV p.ul, iV p.uh, .slice p.ea p.es.length p.ec] 26)]⟩) (acc := [(.bool true, .bool true), (.bool (decide ((mC p.n p.es.length).1 < m)), .bool true)]) (by kernel_rfl) (by kernel_rfl) ⟨rfl, (bo hd4), trivial⟩ ?_
          refine run_end (fn := f23) rfl (Nat.le_refl _) (by kernel_rfl) [] [iV 0, iV 4] (e := []) (by kernel_rfl) trivial (fun w1 k1 h1 => ?_)
          have hq := until_none hF hd3 hd1 (by omega)
          rw [hq.1, hq.2]
          exact ⟨rfl, k1.keeps (fun _ h => h)⟩

set_option maxRecDepth 100000 in
theorem rdays_any (L : List Int) (la : Option Addr) (lc : Nat) (w : World) (hL : Ins w la L) (hl : L.length ≤ maxLen) : Calls Tryz.prog 81 #[.slice la L.length lc] w (RetB (L.all vUses) w) := by
  simp only [maxLen] at hl
  refine calls_run (fn := f81) (c := (f81.body).getD .skip) [.slice la L.length lc] func81 (by kernel_rfl) (fun _ => False) [] (fun _ h => by cases h) (List.Pairwise.nil) 16 (by kernel_rfl) (by simp) ?_
  refine run_auto [] 10 [] [] [0, 2, 3] [] (st' := ⟨[(0, .slice la L.length lc), (2, .bool false), (3, iV 0)], []⟩) (acc := []) (by kernel_rfl) (by kernel_rfl) trivial ?_
  refine run_auto [] 0 [] [] [0, 2, 3] [] (st' := ⟨[(0, .slice la L.length lc), (2, .bool false), (3, iV 0)], []⟩) (acc := []) (by kernel_rfl) (by kernel_rfl) trivial ?_
  refine run_loop (S := fun (i : Nat) => ⟨[(0, .slice la L.length lc), (2, .bool false), (3, iV (i : Int))], []⟩) (fun i => i ≤ L.length ∧ ∀ j, j < i → vUses (elI L j) = true) (fun i => L.length - i) (0) (by kernel_rfl) (⟨Nat.zero_le _, fun _ h => by cases h⟩) (by kernel_rfl) (fun i hI0 J0 hJ0 => ?_)
  obtain ⟨hI1, hI2⟩ := hI0
  cases hd1 : (decide ((i : Int) < (L.length : Int))) with
  | false =>
    have hp1 := of_decide_eq_false hd1
    refine run_auto [(7, .bool false)] 14 [false] [] [2] [] (st' := ⟨[(2, .bool true)], []⟩) (acc := [(.bool false, .bool false), (.bool (decide ((i : Int) < (L.length : Int))), .bool false)]) (by kernel_rfl) (by kernel_rfl) ⟨rfl, (bo hd1), trivial⟩ ?_
    refine run_end (fn := f81) rfl (Nat.le_refl _) (by kernel_rfl) [] [.bool true] (e := []) (by kernel_rfl) trivial (fun w1 k1 h1 => ?_)
    have h : L.all vUses = true := allI_yes (p := vUses) (d := 0) (fun j hj => hI2 j (by omega))
    exact ⟨by rw [h]; rfl, k1.keeps (fun _ h => h)⟩
  | true =>
    have hp1 := of_decide_eq_true hd1
    have hil : i < L.length := by omega
    obtain ⟨b_, o_, hla, hc_⟩ := hL (by intro h; rw [h] at hil; cases hil)
    have hci := hc_ i hil
    refine run_auto [(7, .bool true)] 16 [true] [] [0, 2, 3, 10, 11] [] (st' := ⟨[(0, .slice la L.length lc), (2, .bool false), (3, iV (i : Int)), (10, .slice la L.length lc), (11, iV (i : Int))], []⟩) (acc := [(.bool true, .bool true), (.bool (decide ((i : Int) < (L.length : Int))), .bool true)]) (by kernel_rfl) (by kernel_rfl) ⟨rfl, (bo hd1), trivial⟩ ?_
    refine run_v (Instr.indexAt 38 (.slice la L.length lc) (iV (i : Int)) >>= fun v => pure (Next.value v)) (some 12) (.pointer (some ⟨b_, o_ + i, none⟩)) (by kernel_rfl) (fun w1 k1 h1 => (by rw [hla]; exact idx_off (e := 3) (n := 1) (by kernel_rfl) (by kernel_rfl) b_ o_ L.length lc .i64 i hil (o_ + i) (by omega) w1)) ?_
    refine run_v (Instr.loadAt 3 (.pointer (some ⟨b_, o_ + i, none⟩)) >>= fun v => pure (Next.value v)) (some 13) (iV (elI L i)) (by kernel_rfl) (fun w1 k1 h1 => load_in (off := 0) k1 (fun h => h) [iV (elI L i)] (c1 (j := i) hci) (by kernel_rfl)) ?_
    cases hd2 : (inI (elI L i) 0 20) with
    | false =>
      refine run_ret1 101 #[iV (elI L i), iV 0, iV 20] (some 14) (.bool false) (by kernel_rfl) (fun w1 k1 h1 => (by have h := rin_any (elI L i) 0 20 w1; rw [hd2] at h; exact h)) ?_
      refine run_auto [(15, .bool true)] 7 [true] [] [0, 2, 3] [] (st' := ⟨[(0, .slice la L.length lc), (2, .bool false), (3, iV (i : Int))], []⟩) (acc := [(.bool true, .bool true), (.bool true, .bool true)]) (by kernel_rfl) (by kernel_rfl) ⟨rfl, rfl, trivial⟩ ?_
      refine run_end (fn := f81) rfl (Nat.le_refl _) (by kernel_rfl) [] [.bool false] (e := []) (by kernel_rfl) trivial (fun w1 k1 h1 => ?_)
      have h : L.all vUses = false := allI_no (p := vUses) (d := 0) hil (show vUses (elI L i) = false from hd2)
      exact ⟨by rw [h]; rfl, k1.keeps (fun _ h => h)⟩
    | true =>
      refine run_ret1 101 #[iV (elI L i), iV 0, iV 20] (some 14) (.bool true) (by kernel_rfl) (fun w1 k1 h1 => (by have h := rin_any (elI L i) 0 20 w1; rw [hd2] at h; exact h)) ?_
      refine run_auto [(15, .bool false), (9, iV ((i + 1 : Nat) : Int))] 10 [false] [] [0, 2, 3] [] (st' := ⟨[(0, .slice la L.length lc), (2, .bool false), (3, iV ((i + 1 : Nat) : Int))], []⟩) (acc := [(iV (IntKind.i64.wrap ((i : Int) + 1)), iV ((i + 1 : Nat) : Int)), (.bool false, .bool false), (.bool false, .bool false)]) (by kernel_rfl) (by kernel_rfl) ⟨(wr (by omega) (by omega)), rfl, rfl, trivial⟩ ?_
      exact run_round (by kernel_rfl) (hJ0 (i + 1) (⟨by omega, fun j hj => (Nat.lt_succ_iff_lt_or_eq.1 hj).elim (hI2 j) (fun h => h ▸ hd2)⟩) (by omega))

set_option maxRecDepth 100000 in
theorem rDay_any (p : Wb) (m : Int) (L : List Int) (la : Option Addr) (lc : Nat) (w : World) (hp : p.In w) (hL : Ins w la L) (hlm : L.length ≤ maxLen) : Calls Tryz.prog 25 #[.agg #[.int .i64 p.ll, .int .i64 p.lh, .int .i64 p.ul, .int .i64 p.uh, .slice p.ea p.es.length p.ec], .int .i64 m, .slice la L.length lc] w (Ret (.tuple #[.int .i64 (inA (dayR p m L)), .int .i64 (erA (dayR p m L))]) w) := by
  have hlm2 : L.length ≤ 2 ^ 63 - 1 := by have h := hlm; simp only [maxLen] at h; exact h
  refine calls_run (fn := f25) (c := (f25.body).getD .skip) [.agg #[.int .i64 p.ll, .int .i64 p.lh, .int .i64 p.ul, .int .i64 p.uh, .slice p.ea p.es.length p.ec], .int .i64 m, .slice la L.length lc] func25 (by kernel_rfl) (fun _ => False) [] (fun _ h => by cases h) (List.Pairwise.nil) 50 (by kernel_rfl) (by simp) ?_
  refine run_auto [] 2 [] [] [0, 1, 2] [] (st' := ⟨[(0, .agg #[iV p.ll, iV p.lh, iV p.ul, iV p.uh, .slice p.ea p.es.length p.ec]), (1, iV m), (2, .slice la L.length lc)], []⟩) (acc := []) (by kernel_rfl) (by kernel_rfl) trivial ?_
  refine run_new (aO #[iV p.ll, iV p.lh, iV p.ul, iV p.uh, .slice p.ea p.es.length p.ec] 26) (fun b1 => pA b1) (some 3) (fun _ => by kernel_rfl) (fun b1 hb1 => ?_)
  refine run_auto [] 4 [] [] [1, 2, 3, 6, 7] [0] (st' := ⟨[(1, iV m), (2, .slice la L.length lc), (3, pA b1), (6, iV 0), (7, iV 0)], [(b1, aO #[iV p.ll, iV p.lh, iV p.ul, iV p.uh, .slice p.ea p.es.length p.ec] 26)]⟩) (acc := []) (by kernel_rfl) (by kernel_rfl) trivial ?_
  cases hd1 : (spI (m, m) (-1000) 1000) with
  | false =>
    cases hd2 : p.n.ok with
    | false =>
      refine drawW 11 [{ val := fun _ => .agg #[iV p.ll, iV p.lh, iV p.ul, iV p.uh, .slice p.ea p.es.length p.ec], slots := [3], reads := [0] },
              { val := fun _ => .slice la L.length lc, slots := [2] },
              { val := fun _ => iV (L.length : Int), slots := [12] },
              { val := fun _ => iV m, slots := [1] },
              { val := fun _ => .bool false, slots := [14] },
              { val := fun _ => .bool false, slots := [15] },
              { slots := [16] },
              { slots := [16] },
              { val := fun _ => .bool false, slots := [16, 18] },
              { val := fun _ => iV 1, slots := [11, 13, 19] },
              { val := fun _ => iV 1, slots := [20] }] [[], [], [1], [], [3], [3, 4], [3, 4, 5], [3, 4, 5, 6], [3, 4, 5, 6, 7], [0, 1, 2, 3, 4, 5, 6, 7, 8], [0, 1, 2, 3, 4, 5, 6, 7, 8, 9]] (by kernel_rfl) (by kernel_rfl) (by kernel_rfl) (by kernel_rfl) [1, 2, 3, 6, 7, 8] [0] (by kernel_rfl)
              ⟨⟨⟨⟨⟨⟨⟨⟨⟨⟨⟨trivial,
              tri_quietW (fun β => []) [0] [0] (fun β => [(pA b1, pA b1)]) (by kernel_rfl) (fun β extra => by kernel_rfl) (by kernel_rfl) (fun β => ⟨rfl, trivial⟩)⟩,
              tri_quietW (fun β => []) [] [] (fun β => []) (by kernel_rfl) (fun β extra => by kernel_rfl) (by kernel_rfl) (fun β => trivial)⟩,
              tri_quietW (fun β => []) [] [] (fun β => []) (by kernel_rfl) (fun β extra => by kernel_rfl) (by kernel_rfl) (fun β => trivial)⟩,
              tri_quietW (fun β => []) [] [] (fun β => []) (by kernel_rfl) (fun β extra => by kernel_rfl) (by kernel_rfl) (fun β => trivial)⟩,
              tri_callVW (fun β => .bool false) (fun β => by kernel_rfl) 59 (fun β => #[iV m]) (by kernel_rfl) (fun β extra => by kernel_rfl) (fun β => by kernel_rfl) (fun β w1 k1 h1 => (by have h := rlimit_any m w1; rw [hd1] at h; exact h))⟩,
              tri_quietW (fun β => []) [] [] (fun β => []) (by kernel_rfl) (fun β extra => by kernel_rfl) (by kernel_rfl) (fun β => trivial)⟩,
              tri_quietW (fun β => []) [] [] (fun β => []) (by kernel_rfl) (fun β extra => by kernel_rfl) (by kernel_rfl) (fun β => trivial)⟩,
              tri_quietW (fun β => []) [] [] (fun β => []) (by kernel_rfl) (fun β extra => by kernel_rfl) (by kernel_rfl) (fun β => trivial)⟩,
              tri_quietW (fun β => []) [] [] (fun β => []) (by kernel_rfl) (fun β extra => by kernel_rfl) (by kernel_rfl) (fun β => trivial)⟩,
              tri_callVW (fun β => iV 1) (fun β => by kernel_rfl) 46 (fun β => #[.agg #[iV p.ll, iV p.lh, iV p.ul, iV p.uh, .slice p.ea p.es.length p.ec], iV (L.length : Int), .bool false]) (by kernel_rfl) (fun β extra => by kernel_rfl) (fun β => by kernel_rfl) (fun β w1 k1 h1 => (by have h := check_any p (L.length : Int) false w1 (hp.keep (k1.keeps (fun _ h => h))); rw [show chkR p (L.length : Int) false = 1 from by unfold chkR; rw [hd2]; rfl] at h; exact h))⟩,
              tri_quietW (fun β => []) [] [] (fun β => []) (by kernel_rfl) (fun β extra => by kernel_rfl) (by kernel_rfl) (fun β => trivial)⟩
              (fun β => ⟨[(1, iV m), (2, .slice la L.length lc), (3, pA b1), (6, iV 0), (7, iV 0), (8, iV 1)], [(b1, aO #[iV p.ll, iV p.lh, iV p.ul, iV p.uh, .slice p.ea p.es.length p.ec] 26)]⟩) (fun β => by kernel_rfl) (fun β2 => ?_)
      refine run_auto [(22, .bool true)] 13 [true] [] [1, 2, 3, 6, 7] [0] (st' := ⟨[(1, iV m), (2, .slice la L.length lc), (3, pA b1), (6, iV 0), (7, iV 1)], [(b1, aO #[iV p.ll, iV p.lh, iV p.ul, iV p.uh, .slice p.ea p.es.length p.ec] 26)]⟩) (acc := [(.bool true, .bool true), (.bool true, .bool true)]) (by kernel_rfl) (by kernel_rfl) ⟨rfl, rfl, trivial⟩ ?_
      refine run_end (fn := f25) rfl (Nat.le_refl _) (by kernel_rfl) [] [iV 0, iV 1] (e := []) (by kernel_rfl) trivial (fun w1 k1 h1 => ?_)
      unfold dayR
      try rw [hd2]
      try rw [hd1]
      exact ⟨rfl, k1.keeps (fun _ h => h)⟩
    | true =>
      have hF := Wn.fine hd2
      have hn8 : p.es.length ≤ 8 := hF.n8
      have hal := all_lt hF
      have hl0 : 0 ≤ p.ll ∧ p.ll ≤ p.lh ∧ p.lh ≤ 300 := hF.l
      cases hd3 : (decide (10 < (L.length : Int))) with
      | false =>
        have hp3 := of_decide_eq_false hd3
        have hD10 : L.length ≤ 10 := by omega
        refine drawW 11 [{ val := fun _ => .agg #[iV p.ll, iV p.lh, iV p.ul, iV p.uh, .slice p.ea p.es.length p.ec], slots := [3], reads := [0] },
                  { val := fun _ => .slice la L.length lc, slots := [2] },
                  { val := fun _ => iV (L.length : Int), slots := [12] },
                  { val := fun _ => iV m, slots := [1] },
                  { val := fun _ => .bool false, slots := [14] },
                  { val := fun _ => .bool false, slots := [15] },
                  { slots := [16] },
                  { slots := [16] },
                  { val := fun _ => .bool false, slots := [16, 18] },
                  { val := fun _ => iV 2, slots := [11, 13, 19] },
                  { val := fun _ => iV 2, slots := [20] }] [[], [], [1], [], [3], [3, 4], [3, 4, 5], [3, 4, 5, 6], [3, 4, 5, 6, 7], [0, 1, 2, 3, 4, 5, 6, 7, 8], [0, 1, 2, 3, 4, 5, 6, 7, 8, 9]] (by kernel_rfl) (by kernel_rfl) (by kernel_rfl) (by kernel_rfl) [1, 2, 3, 6, 7, 8] [0] (by kernel_rfl)
                  ⟨⟨⟨⟨⟨⟨⟨⟨⟨⟨⟨trivial,
                  tri_quietW (fun β => []) [0] [0] (fun β => [(pA b1, pA b1)]) (by kernel_rfl) (fun β extra => by kernel_rfl) (by kernel_rfl) (fun β => ⟨rfl, trivial⟩)⟩,
                  tri_quietW (fun β => []) [] [] (fun β => []) (by kernel_rfl) (fun β extra => by kernel_rfl) (by kernel_rfl) (fun β => trivial)⟩,
                  tri_quietW (fun β => []) [] [] (fun β => []) (by kernel_rfl) (fun β extra => by kernel_rfl) (by kernel_rfl) (fun β => trivial)⟩,
                  tri_quietW (fun β => []) [] [] (fun β => []) (by kernel_rfl) (fun β extra => by kernel_rfl) (by kernel_rfl) (fun β => trivial)⟩,
                  tri_callVW (fun β => .bool false) (fun β => by kernel_rfl) 59 (fun β => #[iV m]) (by kernel_rfl) (fun β extra => by kernel_rfl) (fun β => by kernel_rfl) (fun β w1 k1 h1 => (by have h := rlimit_any m w1; rw [hd1] at h; exact h))⟩,
                  tri_quietW (fun β => []) [] [] (fun β => []) (by kernel_rfl) (fun β extra => by kernel_rfl) (by kernel_rfl) (fun β => trivial)⟩,
                  tri_quietW (fun β => []) [] [] (fun β => []) (by kernel_rfl) (fun β extra => by kernel_rfl) (by kernel_rfl) (fun β => trivial)⟩,
                  tri_quietW (fun β => []) [] [] (fun β => []) (by kernel_rfl) (fun β extra => by kernel_rfl) (by kernel_rfl) (fun β => trivial)⟩,
                  tri_quietW (fun β => []) [] [] (fun β => []) (by kernel_rfl) (fun β extra => by kernel_rfl) (by kernel_rfl) (fun β => trivial)⟩,
                  tri_callVW (fun β => iV 2) (fun β => by kernel_rfl) 46 (fun β => #[.agg #[iV p.ll, iV p.lh, iV p.ul, iV p.uh, .slice p.ea p.es.length p.ec], iV (L.length : Int), .bool false]) (by kernel_rfl) (fun β extra => by kernel_rfl) (fun β => by kernel_rfl) (fun β w1 k1 h1 => (by have h := check_any p (L.length : Int) false w1 (hp.keep (k1.keeps (fun _ h => h))); rw [show chkR p (L.length : Int) false = 2 from by unfold chkR; rw [hd2, hd3]; rfl] at h; exact h))⟩,
                  tri_quietW (fun β => []) [] [] (fun β => []) (by kernel_rfl) (fun β extra => by kernel_rfl) (by kernel_rfl) (fun β => trivial)⟩
                  (fun β => ⟨[(1, iV m), (2, .slice la L.length lc), (3, pA b1), (6, iV 0), (7, iV 0), (8, iV 2)], [(b1, aO #[iV p.ll, iV p.lh, iV p.ul, iV p.uh, .slice p.ea p.es.length p.ec] 26)]⟩) (fun β => by kernel_rfl) (fun β2 => ?_)
        refine run_auto [(22, .bool true)] 13 [true] [] [1, 2, 3, 6, 7] [0] (st' := ⟨[(1, iV m), (2, .slice la L.length lc), (3, pA b1), (6, iV 0), (7, iV 2)], [(b1, aO #[iV p.ll, iV p.lh, iV p.ul, iV p.uh, .slice p.ea p.es.length p.ec] 26)]⟩) (acc := [(.bool true, .bool true), (.bool true, .bool true)]) (by kernel_rfl) (by kernel_rfl) ⟨rfl, rfl, trivial⟩ ?_
        refine run_end (fn := f25) rfl (Nat.le_refl _) (by kernel_rfl) [] [iV 0, iV 2] (e := []) (by kernel_rfl) trivial (fun w1 k1 h1 => ?_)
        unfold dayR
        try rw [hd2]
        try rw [show decide (L.length ≤ 10) = true from decide_eq_true (by omega)]
        try rw [hd1]
        exact ⟨rfl, k1.keeps (fun _ h => h)⟩
      | true =>
        have hp3 := of_decide_eq_true hd3
        refine drawW 11 [{ val := fun _ => .agg #[iV p.ll, iV p.lh, iV p.ul, iV p.uh, .slice p.ea p.es.length p.ec], slots := [3], reads := [0] },
                  { val := fun _ => .slice la L.length lc, slots := [2] },
                  { val := fun _ => iV (L.length : Int), slots := [12] },
                  { val := fun _ => iV m, slots := [1] },
                  { val := fun _ => .bool false, slots := [14] },
                  { val := fun _ => .bool false, slots := [15] },
                  { slots := [16] },
                  { slots := [16] },
                  { val := fun _ => .bool false, slots := [16, 18] },
                  { val := fun _ => iV 3, slots := [11, 13, 19] },
                  { val := fun _ => iV 3, slots := [20] }] [[], [], [1], [], [3], [3, 4], [3, 4, 5], [3, 4, 5, 6], [3, 4, 5, 6, 7], [0, 1, 2, 3, 4, 5, 6, 7, 8], [0, 1, 2, 3, 4, 5, 6, 7, 8, 9]] (by kernel_rfl) (by kernel_rfl) (by kernel_rfl) (by kernel_rfl) [1, 2, 3, 6, 7, 8] [0] (by kernel_rfl)
                  ⟨⟨⟨⟨⟨⟨⟨⟨⟨⟨⟨trivial,
                  tri_quietW (fun β => []) [0] [0] (fun β => [(pA b1, pA b1)]) (by kernel_rfl) (fun β extra => by kernel_rfl) (by kernel_rfl) (fun β => ⟨rfl, trivial⟩)⟩,
                  tri_quietW (fun β => []) [] [] (fun β => []) (by kernel_rfl) (fun β extra => by kernel_rfl) (by kernel_rfl) (fun β => trivial)⟩,
                  tri_quietW (fun β => []) [] [] (fun β => []) (by kernel_rfl) (fun β extra => by kernel_rfl) (by kernel_rfl) (fun β => trivial)⟩,
                  tri_quietW (fun β => []) [] [] (fun β => []) (by kernel_rfl) (fun β extra => by kernel_rfl) (by kernel_rfl) (fun β => trivial)⟩,
                  tri_callVW (fun β => .bool false) (fun β => by kernel_rfl) 59 (fun β => #[iV m]) (by kernel_rfl) (fun β extra => by kernel_rfl) (fun β => by kernel_rfl) (fun β w1 k1 h1 => (by have h := rlimit_any m w1; rw [hd1] at h; exact h))⟩,
                  tri_quietW (fun β => []) [] [] (fun β => []) (by kernel_rfl) (fun β extra => by kernel_rfl) (by kernel_rfl) (fun β => trivial)⟩,
                  tri_quietW (fun β => []) [] [] (fun β => []) (by kernel_rfl) (fun β extra => by kernel_rfl) (by kernel_rfl) (fun β => trivial)⟩,
                  tri_quietW (fun β => []) [] [] (fun β => []) (by kernel_rfl) (fun β extra => by kernel_rfl) (by kernel_rfl) (fun β => trivial)⟩,
                  tri_quietW (fun β => []) [] [] (fun β => []) (by kernel_rfl) (fun β extra => by kernel_rfl) (by kernel_rfl) (fun β => trivial)⟩,
                  tri_callVW (fun β => iV 3) (fun β => by kernel_rfl) 46 (fun β => #[.agg #[iV p.ll, iV p.lh, iV p.ul, iV p.uh, .slice p.ea p.es.length p.ec], iV (L.length : Int), .bool false]) (by kernel_rfl) (fun β extra => by kernel_rfl) (fun β => by kernel_rfl) (fun β w1 k1 h1 => (by have h := check_any p (L.length : Int) false w1 (hp.keep (k1.keeps (fun _ h => h))); rw [show chkR p (L.length : Int) false = 3 from by unfold chkR; rw [hd2, hd3]; rfl] at h; exact h))⟩,
                  tri_quietW (fun β => []) [] [] (fun β => []) (by kernel_rfl) (fun β extra => by kernel_rfl) (by kernel_rfl) (fun β => trivial)⟩
                  (fun β => ⟨[(1, iV m), (2, .slice la L.length lc), (3, pA b1), (6, iV 0), (7, iV 0), (8, iV 3)], [(b1, aO #[iV p.ll, iV p.lh, iV p.ul, iV p.uh, .slice p.ea p.es.length p.ec] 26)]⟩) (fun β => by kernel_rfl) (fun β2 => ?_)
        refine run_auto [(22, .bool true)] 13 [true] [] [1, 2, 3, 6, 7] [0] (st' := ⟨[(1, iV m), (2, .slice la L.length lc), (3, pA b1), (6, iV 0), (7, iV 3)], [(b1, aO #[iV p.ll, iV p.lh, iV p.ul, iV p.uh, .slice p.ea p.es.length p.ec] 26)]⟩) (acc := [(.bool true, .bool true), (.bool true, .bool true)]) (by kernel_rfl) (by kernel_rfl) ⟨rfl, rfl, trivial⟩ ?_
        refine run_end (fn := f25) rfl (Nat.le_refl _) (by kernel_rfl) [] [iV 0, iV 3] (e := []) (by kernel_rfl) trivial (fun w1 k1 h1 => ?_)
        unfold dayR
        try rw [hd2]
        try rw [show decide (L.length ≤ 10) = false from decide_eq_false (by omega)]
        try rw [hd1]
        exact ⟨rfl, k1.keeps (fun _ h => h)⟩
  | true =>
    cases hd2 : (L.all vUses) with
    | false =>
      cases hd3 : p.n.ok with
      | false =>
        refine drawW 11 [{ val := fun _ => .agg #[iV p.ll, iV p.lh, iV p.ul, iV p.uh, .slice p.ea p.es.length p.ec], slots := [3], reads := [0] },
                  { val := fun _ => .slice la L.length lc, slots := [2] },
                  { val := fun _ => iV (L.length : Int), slots := [12] },
                  { val := fun _ => iV m, slots := [1] },
                  { val := fun _ => .bool true, slots := [14] },
                  { val := fun _ => .bool true, slots := [15] },
                  { val := fun _ => .slice la L.length lc, slots := [2, 16] },
                  { val := fun _ => .bool false, slots := [16, 17] },
                  { val := fun _ => .bool false, slots := [16, 18] },
                  { val := fun _ => iV 1, slots := [11, 13, 19] },
                  { val := fun _ => iV 1, slots := [20] }] [[], [], [1], [], [3], [3, 4], [3, 4, 5], [3, 4, 5, 6], [3, 4, 5, 6, 7], [0, 1, 2, 3, 4, 5, 6, 7, 8], [0, 1, 2, 3, 4, 5, 6, 7, 8, 9]] (by kernel_rfl) (by kernel_rfl) (by kernel_rfl) (by kernel_rfl) [1, 2, 3, 6, 7, 8] [0] (by kernel_rfl)
                  ⟨⟨⟨⟨⟨⟨⟨⟨⟨⟨⟨trivial,
                  tri_quietW (fun β => []) [0] [0] (fun β => [(pA b1, pA b1)]) (by kernel_rfl) (fun β extra => by kernel_rfl) (by kernel_rfl) (fun β => ⟨rfl, trivial⟩)⟩,
                  tri_quietW (fun β => []) [] [] (fun β => []) (by kernel_rfl) (fun β extra => by kernel_rfl) (by kernel_rfl) (fun β => trivial)⟩,
                  tri_quietW (fun β => []) [] [] (fun β => []) (by kernel_rfl) (fun β extra => by kernel_rfl) (by kernel_rfl) (fun β => trivial)⟩,
                  tri_quietW (fun β => []) [] [] (fun β => []) (by kernel_rfl) (fun β extra => by kernel_rfl) (by kernel_rfl) (fun β => trivial)⟩,
                  tri_callVW (fun β => .bool true) (fun β => by kernel_rfl) 59 (fun β => #[iV m]) (by kernel_rfl) (fun β extra => by kernel_rfl) (fun β => by kernel_rfl) (fun β w1 k1 h1 => (by have h := rlimit_any m w1; rw [hd1] at h; exact h))⟩,
                  tri_quietW (fun β => []) [] [] (fun β => []) (by kernel_rfl) (fun β extra => by kernel_rfl) (by kernel_rfl) (fun β => trivial)⟩,
                  tri_quietW (fun β => []) [] [] (fun β => []) (by kernel_rfl) (fun β extra => by kernel_rfl) (by kernel_rfl) (fun β => trivial)⟩,
                  tri_callVW (fun β => .bool false) (fun β => by kernel_rfl) 81 (fun β => #[.slice la L.length lc]) (by kernel_rfl) (fun β extra => by kernel_rfl) (fun β => by kernel_rfl) (fun β w1 k1 h1 => (by have h := rdays_any L la lc w1 (hL.keep (k1.keeps (fun _ h => h))) hlm; rw [hd2] at h; exact h))⟩,
                  tri_quietW (fun β => []) [] [] (fun β => []) (by kernel_rfl) (fun β extra => by kernel_rfl) (by kernel_rfl) (fun β => trivial)⟩,
                  tri_callVW (fun β => iV 1) (fun β => by kernel_rfl) 46 (fun β => #[.agg #[iV p.ll, iV p.lh, iV p.ul, iV p.uh, .slice p.ea p.es.length p.ec], iV (L.length : Int), .bool false]) (by kernel_rfl) (fun β extra => by kernel_rfl) (fun β => by kernel_rfl) (fun β w1 k1 h1 => (by have h := check_any p (L.length : Int) false w1 (hp.keep (k1.keeps (fun _ h => h))); rw [show chkR p (L.length : Int) false = 1 from by unfold chkR; rw [hd3]; rfl] at h; exact h))⟩,
                  tri_quietW (fun β => []) [] [] (fun β => []) (by kernel_rfl) (fun β extra => by kernel_rfl) (by kernel_rfl) (fun β => trivial)⟩
                  (fun β => ⟨[(1, iV m), (2, .slice la L.length lc), (3, pA b1), (6, iV 0), (7, iV 0), (8, iV 1)], [(b1, aO #[iV p.ll, iV p.lh, iV p.ul, iV p.uh, .slice p.ea p.es.length p.ec] 26)]⟩) (fun β => by kernel_rfl) (fun β2 => ?_)
        refine run_auto [(22, .bool true)] 13 [true] [] [1, 2, 3, 6, 7] [0] (st' := ⟨[(1, iV m), (2, .slice la L.length lc), (3, pA b1), (6, iV 0), (7, iV 1)], [(b1, aO #[iV p.ll, iV p.lh, iV p.ul, iV p.uh, .slice p.ea p.es.length p.ec] 26)]⟩) (acc := [(.bool true, .bool true), (.bool true, .bool true)]) (by kernel_rfl) (by kernel_rfl) ⟨rfl, rfl, trivial⟩ ?_
        refine run_end (fn := f25) rfl (Nat.le_refl _) (by kernel_rfl) [] [iV 0, iV 1] (e := []) (by kernel_rfl) trivial (fun w1 k1 h1 => ?_)
        unfold dayR
        try rw [hd3]
        try rw [hd1]
        try rw [hd2]
        exact ⟨rfl, k1.keeps (fun _ h => h)⟩
      | true =>
        have hF := Wn.fine hd3
        have hn8 : p.es.length ≤ 8 := hF.n8
        have hal := all_lt hF
        have hl0 : 0 ≤ p.ll ∧ p.ll ≤ p.lh ∧ p.lh ≤ 300 := hF.l
        cases hd4 : (decide (10 < (L.length : Int))) with
        | false =>
          have hp4 := of_decide_eq_false hd4
          have hD10 : L.length ≤ 10 := by omega
          refine drawW 11 [{ val := fun _ => .agg #[iV p.ll, iV p.lh, iV p.ul, iV p.uh, .slice p.ea p.es.length p.ec], slots := [3], reads := [0] },
                      { val := fun _ => .slice la L.length lc, slots := [2] },
                      { val := fun _ => iV (L.length : Int), slots := [12] },
                      { val := fun _ => iV m, slots := [1] },
                      { val := fun _ => .bool true, slots := [14] },
                      { val := fun _ => .bool true, slots := [15] },
                      { val := fun _ => .slice la L.length lc, slots := [2, 16] },
                      { val := fun _ => .bool false, slots := [16, 17] },
                      { val := fun _ => .bool false, slots := [16, 18] },
                      { val := fun _ => iV 2, slots := [11, 13, 19] },
                      { val := fun _ => iV 2, slots := [20] }] [[], [], [1], [], [3], [3, 4], [3, 4, 5], [3, 4, 5, 6], [3, 4, 5, 6, 7], [0, 1, 2, 3, 4, 5, 6, 7, 8], [0, 1, 2, 3, 4, 5, 6, 7, 8, 9]] (by kernel_rfl) (by kernel_rfl) (by kernel_rfl) (by kernel_rfl) [1, 2, 3, 6, 7, 8] [0] (by kernel_rfl)
                      ⟨⟨⟨⟨⟨⟨⟨⟨⟨⟨⟨trivial,
                      tri_quietW (fun β => []) [0] [0] (fun β => [(pA b1, pA b1)]) (by kernel_rfl) (fun β extra => by kernel_rfl) (by kernel_rfl) (fun β => ⟨rfl, trivial⟩)⟩,
                      tri_quietW (fun β => []) [] [] (fun β => []) (by kernel_rfl) (fun β extra => by kernel_rfl) (by kernel_rfl) (fun β => trivial)⟩,
                      tri_quietW (fun β => []) [] [] (fun β => []) (by kernel_rfl) (fun β extra => by kernel_rfl) (by kernel_rfl) (fun β => trivial)⟩,
                      tri_quietW (fun β => []) [] [] (fun β => []) (by kernel_rfl) (fun β extra => by kernel_rfl) (by kernel_rfl) (fun β => trivial)⟩,
                      tri_callVW (fun β => .bool true) (fun β => by kernel_rfl) 59 (fun β => #[iV m]) (by kernel_rfl) (fun β extra => by kernel_rfl) (fun β => by kernel_rfl) (fun β w1 k1 h1 => (by have h := rlimit_any m w1; rw [hd1] at h; exact h))⟩,
                      tri_quietW (fun β => []) [] [] (fun β => []) (by kernel_rfl) (fun β extra => by kernel_rfl) (by kernel_rfl) (fun β => trivial)⟩,
                      tri_quietW (fun β => []) [] [] (fun β => []) (by kernel_rfl) (fun β extra => by kernel_rfl) (by kernel_rfl) (fun β => trivial)⟩,
                      tri_callVW (fun β => .bool false) (fun β => by kernel_rfl) 81 (fun β => #[.slice la L.length lc]) (by kernel_rfl) (fun β extra => by kernel_rfl) (fun β => by kernel_rfl) (fun β w1 k1 h1 => (by have h := rdays_any L la lc w1 (hL.keep (k1.keeps (fun _ h => h))) hlm; rw [hd2] at h; exact h))⟩,
                      tri_quietW (fun β => []) [] [] (fun β => []) (by kernel_rfl) (fun β extra => by kernel_rfl) (by kernel_rfl) (fun β => trivial)⟩,
                      tri_callVW (fun β => iV 2) (fun β => by kernel_rfl) 46 (fun β => #[.agg #[iV p.ll, iV p.lh, iV p.ul, iV p.uh, .slice p.ea p.es.length p.ec], iV (L.length : Int), .bool false]) (by kernel_rfl) (fun β extra => by kernel_rfl) (fun β => by kernel_rfl) (fun β w1 k1 h1 => (by have h := check_any p (L.length : Int) false w1 (hp.keep (k1.keeps (fun _ h => h))); rw [show chkR p (L.length : Int) false = 2 from by unfold chkR; rw [hd3, hd4]; rfl] at h; exact h))⟩,
                      tri_quietW (fun β => []) [] [] (fun β => []) (by kernel_rfl) (fun β extra => by kernel_rfl) (by kernel_rfl) (fun β => trivial)⟩
                      (fun β => ⟨[(1, iV m), (2, .slice la L.length lc), (3, pA b1), (6, iV 0), (7, iV 0), (8, iV 2)], [(b1, aO #[iV p.ll, iV p.lh, iV p.ul, iV p.uh, .slice p.ea p.es.length p.ec] 26)]⟩) (fun β => by kernel_rfl) (fun β2 => ?_)
          refine run_auto [(22, .bool true)] 13 [true] [] [1, 2, 3, 6, 7] [0] (st' := ⟨[(1, iV m), (2, .slice la L.length lc), (3, pA b1), (6, iV 0), (7, iV 2)], [(b1, aO #[iV p.ll, iV p.lh, iV p.ul, iV p.uh, .slice p.ea p.es.length p.ec] 26)]⟩) (acc := [(.bool true, .bool true), (.bool true, .bool true)]) (by kernel_rfl) (by kernel_rfl) ⟨rfl, rfl, trivial⟩ ?_
          refine run_end (fn := f25) rfl (Nat.le_refl _) (by kernel_rfl) [] [iV 0, iV 2] (e := []) (by kernel_rfl) trivial (fun w1 k1 h1 => ?_)
          unfold dayR
          try rw [hd3]
          try rw [show decide (L.length ≤ 10) = true from decide_eq_true (by omega)]
          try rw [hd1]
          try rw [hd2]
          exact ⟨rfl, k1.keeps (fun _ h => h)⟩
        | true =>
          have hp4 := of_decide_eq_true hd4
          refine drawW 11 [{ val := fun _ => .agg #[iV p.ll, iV p.lh, iV p.ul, iV p.uh, .slice p.ea p.es.length p.ec], slots := [3], reads := [0] },
                      { val := fun _ => .slice la L.length lc, slots := [2] },
                      { val := fun _ => iV (L.length : Int), slots := [12] },
                      { val := fun _ => iV m, slots := [1] },
                      { val := fun _ => .bool true, slots := [14] },
                      { val := fun _ => .bool true, slots := [15] },
                      { val := fun _ => .slice la L.length lc, slots := [2, 16] },
                      { val := fun _ => .bool false, slots := [16, 17] },
                      { val := fun _ => .bool false, slots := [16, 18] },
                      { val := fun _ => iV 3, slots := [11, 13, 19] },
                      { val := fun _ => iV 3, slots := [20] }] [[], [], [1], [], [3], [3, 4], [3, 4, 5], [3, 4, 5, 6], [3, 4, 5, 6, 7], [0, 1, 2, 3, 4, 5, 6, 7, 8], [0, 1, 2, 3, 4, 5, 6, 7, 8, 9]] (by kernel_rfl) (by kernel_rfl) (by kernel_rfl) (by kernel_rfl) [1, 2, 3, 6, 7, 8] [0] (by kernel_rfl)
                      ⟨⟨⟨⟨⟨⟨⟨⟨⟨⟨⟨trivial,
                      tri_quietW (fun β => []) [0] [0] (fun β => [(pA b1, pA b1)]) (by kernel_rfl) (fun β extra => by kernel_rfl) (by kernel_rfl) (fun β => ⟨rfl, trivial⟩)⟩,
                      tri_quietW (fun β => []) [] [] (fun β => []) (by kernel_rfl) (fun β extra => by kernel_rfl) (by kernel_rfl) (fun β => trivial)⟩,
                      tri_quietW (fun β => []) [] [] (fun β => []) (by kernel_rfl) (fun β extra => by kernel_rfl) (by kernel_rfl) (fun β => trivial)⟩,
                      tri_quietW (fun β => []) [] [] (fun β => []) (by kernel_rfl) (fun β extra => by kernel_rfl) (by kernel_rfl) (fun β => trivial)⟩,
                      tri_callVW (fun β => .bool true) (fun β => by kernel_rfl) 59 (fun β => #[iV m]) (by kernel_rfl) (fun β extra => by kernel_rfl) (fun β => by kernel_rfl) (fun β w1 k1 h1 => (by have h := rlimit_any m w1; rw [hd1] at h; exact h))⟩,
                      tri_quietW (fun β => []) [] [] (fun β => []) (by kernel_rfl) (fun β extra => by kernel_rfl) (by kernel_rfl) (fun β => trivial)⟩,
                      tri_quietW (fun β => []) [] [] (fun β => []) (by kernel_rfl) (fun β extra => by kernel_rfl) (by kernel_rfl) (fun β => trivial)⟩,
                      tri_callVW (fun β => .bool false) (fun β => by kernel_rfl) 81 (fun β => #[.slice la L.length lc]) (by kernel_rfl) (fun β extra => by kernel_rfl) (fun β => by kernel_rfl) (fun β w1 k1 h1 => (by have h := rdays_any L la lc w1 (hL.keep (k1.keeps (fun _ h => h))) hlm; rw [hd2] at h; exact h))⟩,
                      tri_quietW (fun β => []) [] [] (fun β => []) (by kernel_rfl) (fun β extra => by kernel_rfl) (by kernel_rfl) (fun β => trivial)⟩,
                      tri_callVW (fun β => iV 3) (fun β => by kernel_rfl) 46 (fun β => #[.agg #[iV p.ll, iV p.lh, iV p.ul, iV p.uh, .slice p.ea p.es.length p.ec], iV (L.length : Int), .bool false]) (by kernel_rfl) (fun β extra => by kernel_rfl) (fun β => by kernel_rfl) (fun β w1 k1 h1 => (by have h := check_any p (L.length : Int) false w1 (hp.keep (k1.keeps (fun _ h => h))); rw [show chkR p (L.length : Int) false = 3 from by unfold chkR; rw [hd3, hd4]; rfl] at h; exact h))⟩,
                      tri_quietW (fun β => []) [] [] (fun β => []) (by kernel_rfl) (fun β extra => by kernel_rfl) (by kernel_rfl) (fun β => trivial)⟩
                      (fun β => ⟨[(1, iV m), (2, .slice la L.length lc), (3, pA b1), (6, iV 0), (7, iV 0), (8, iV 3)], [(b1, aO #[iV p.ll, iV p.lh, iV p.ul, iV p.uh, .slice p.ea p.es.length p.ec] 26)]⟩) (fun β => by kernel_rfl) (fun β2 => ?_)
          refine run_auto [(22, .bool true)] 13 [true] [] [1, 2, 3, 6, 7] [0] (st' := ⟨[(1, iV m), (2, .slice la L.length lc), (3, pA b1), (6, iV 0), (7, iV 3)], [(b1, aO #[iV p.ll, iV p.lh, iV p.ul, iV p.uh, .slice p.ea p.es.length p.ec] 26)]⟩) (acc := [(.bool true, .bool true), (.bool true, .bool true)]) (by kernel_rfl) (by kernel_rfl) ⟨rfl, rfl, trivial⟩ ?_
          refine run_end (fn := f25) rfl (Nat.le_refl _) (by kernel_rfl) [] [iV 0, iV 3] (e := []) (by kernel_rfl) trivial (fun w1 k1 h1 => ?_)
          unfold dayR
          try rw [hd3]
          try rw [show decide (L.length ≤ 10) = false from decide_eq_false (by omega)]
          try rw [hd1]
          try rw [hd2]
          exact ⟨rfl, k1.keeps (fun _ h => h)⟩
    | true =>
      cases hd3 : p.n.ok with
      | false =>
        refine drawW 11 [{ val := fun _ => .agg #[iV p.ll, iV p.lh, iV p.ul, iV p.uh, .slice p.ea p.es.length p.ec], slots := [3], reads := [0] },
                  { val := fun _ => .slice la L.length lc, slots := [2] },
                  { val := fun _ => iV (L.length : Int), slots := [12] },
                  { val := fun _ => iV m, slots := [1] },
                  { val := fun _ => .bool true, slots := [14] },
                  { val := fun _ => .bool true, slots := [15] },
                  { val := fun _ => .slice la L.length lc, slots := [2, 16] },
                  { val := fun _ => .bool true, slots := [16, 17] },
                  { val := fun _ => .bool true, slots := [16, 18] },
                  { val := fun _ => iV 1, slots := [11, 13, 19] },
                  { val := fun _ => iV 1, slots := [20] }] [[], [], [1], [], [3], [3, 4], [3, 4, 5], [3, 4, 5, 6], [3, 4, 5, 6, 7], [0, 1, 2, 3, 4, 5, 6, 7, 8], [0, 1, 2, 3, 4, 5, 6, 7, 8, 9]] (by kernel_rfl) (by kernel_rfl) (by kernel_rfl) (by kernel_rfl) [1, 2, 3, 6, 7, 8] [0] (by kernel_rfl)
                  ⟨⟨⟨⟨⟨⟨⟨⟨⟨⟨⟨trivial,
                  tri_quietW (fun β => []) [0] [0] (fun β => [(pA b1, pA b1)]) (by kernel_rfl) (fun β extra => by kernel_rfl) (by kernel_rfl) (fun β => ⟨rfl, trivial⟩)⟩,
                  tri_quietW (fun β => []) [] [] (fun β => []) (by kernel_rfl) (fun β extra => by kernel_rfl) (by kernel_rfl) (fun β => trivial)⟩,
                  tri_quietW (fun β => []) [] [] (fun β => []) (by kernel_rfl) (fun β extra => by kernel_rfl) (by kernel_rfl) (fun β => trivial)⟩,
                  tri_quietW (fun β => []) [] [] (fun β => []) (by kernel_rfl) (fun β extra => by kernel_rfl) (by kernel_rfl) (fun β => trivial)⟩,
                  tri_callVW (fun β => .bool true) (fun β => by kernel_rfl) 59 (fun β => #[iV m]) (by kernel_rfl) (fun β extra => by kernel_rfl) (fun β => by kernel_rfl) (fun β w1 k1 h1 => (by have h := rlimit_any m w1; rw [hd1] at h; exact h))⟩,
                  tri_quietW (fun β => []) [] [] (fun β => []) (by kernel_rfl) (fun β extra => by kernel_rfl) (by kernel_rfl) (fun β => trivial)⟩,
                  tri_quietW (fun β => []) [] [] (fun β => []) (by kernel_rfl) (fun β extra => by kernel_rfl) (by kernel_rfl) (fun β => trivial)⟩,
                  tri_callVW (fun β => .bool true) (fun β => by kernel_rfl) 81 (fun β => #[.slice la L.length lc]) (by kernel_rfl) (fun β extra => by kernel_rfl) (fun β => by kernel_rfl) (fun β w1 k1 h1 => (by have h := rdays_any L la lc w1 (hL.keep (k1.keeps (fun _ h => h))) hlm; rw [hd2] at h; exact h))⟩,
                  tri_quietW (fun β => []) [] [] (fun β => []) (by kernel_rfl) (fun β extra => by kernel_rfl) (by kernel_rfl) (fun β => trivial)⟩,
                  tri_callVW (fun β => iV 1) (fun β => by kernel_rfl) 46 (fun β => #[.agg #[iV p.ll, iV p.lh, iV p.ul, iV p.uh, .slice p.ea p.es.length p.ec], iV (L.length : Int), .bool true]) (by kernel_rfl) (fun β extra => by kernel_rfl) (fun β => by kernel_rfl) (fun β w1 k1 h1 => (by have h := check_any p (L.length : Int) true w1 (hp.keep (k1.keeps (fun _ h => h))); rw [show chkR p (L.length : Int) true = 1 from by unfold chkR; rw [hd3]; rfl] at h; exact h))⟩,
                  tri_quietW (fun β => []) [] [] (fun β => []) (by kernel_rfl) (fun β extra => by kernel_rfl) (by kernel_rfl) (fun β => trivial)⟩
                  (fun β => ⟨[(1, iV m), (2, .slice la L.length lc), (3, pA b1), (6, iV 0), (7, iV 0), (8, iV 1)], [(b1, aO #[iV p.ll, iV p.lh, iV p.ul, iV p.uh, .slice p.ea p.es.length p.ec] 26)]⟩) (fun β => by kernel_rfl) (fun β2 => ?_)
        refine run_auto [(22, .bool true)] 13 [true] [] [1, 2, 3, 6, 7] [0] (st' := ⟨[(1, iV m), (2, .slice la L.length lc), (3, pA b1), (6, iV 0), (7, iV 1)], [(b1, aO #[iV p.ll, iV p.lh, iV p.ul, iV p.uh, .slice p.ea p.es.length p.ec] 26)]⟩) (acc := [(.bool true, .bool true), (.bool true, .bool true)]) (by kernel_rfl) (by kernel_rfl) ⟨rfl, rfl, trivial⟩ ?_
        refine run_end (fn := f25) rfl (Nat.le_refl _) (by kernel_rfl) [] [iV 0, iV 1] (e := []) (by kernel_rfl) trivial (fun w1 k1 h1 => ?_)
        unfold dayR
        try rw [hd3]
        try rw [hd1]
        try rw [hd2]
        exact ⟨rfl, k1.keeps (fun _ h => h)⟩
      | true =>
        have hF := Wn.fine hd3
        have hn8 : p.es.length ≤ 8 := hF.n8
        have hal := all_lt hF
        have hl0 : 0 ≤ p.ll ∧ p.ll ≤ p.lh ∧ p.lh ≤ 300 := hF.l
        cases hd4 : (decide (10 < (L.length : Int))) with
        | false =>
          have hp4 := of_decide_eq_false hd4
          have hD10 : L.length ≤ 10 := by omega
          cases hd5 : p.n.can with
          | false =>
            refine drawW 11 [{ val := fun _ => .agg #[iV p.ll, iV p.lh, iV p.ul, iV p.uh, .slice p.ea p.es.length p.ec], slots := [3], reads := [0] },
                          { val := fun _ => .slice la L.length lc, slots := [2] },
                          { val := fun _ => iV (L.length : Int), slots := [12] },
                          { val := fun _ => iV m, slots := [1] },
                          { val := fun _ => .bool true, slots := [14] },
                          { val := fun _ => .bool true, slots := [15] },
                          { val := fun _ => .slice la L.length lc, slots := [2, 16] },
                          { val := fun _ => .bool true, slots := [16, 17] },
                          { val := fun _ => .bool true, slots := [16, 18] },
                          { val := fun _ => iV 10, slots := [11, 13, 19] },
                          { val := fun _ => iV 10, slots := [20] }] [[], [], [1], [], [3], [3, 4], [3, 4, 5], [3, 4, 5, 6], [3, 4, 5, 6, 7], [0, 1, 2, 3, 4, 5, 6, 7, 8], [0, 1, 2, 3, 4, 5, 6, 7, 8, 9]] (by kernel_rfl) (by kernel_rfl) (by kernel_rfl) (by kernel_rfl) [1, 2, 3, 6, 7, 8] [0] (by kernel_rfl)
                          ⟨⟨⟨⟨⟨⟨⟨⟨⟨⟨⟨trivial,
                          tri_quietW (fun β => []) [0] [0] (fun β => [(pA b1, pA b1)]) (by kernel_rfl) (fun β extra => by kernel_rfl) (by kernel_rfl) (fun β => ⟨rfl, trivial⟩)⟩,
                          tri_quietW (fun β => []) [] [] (fun β => []) (by kernel_rfl) (fun β extra => by kernel_rfl) (by kernel_rfl) (fun β => trivial)⟩,
                          tri_quietW (fun β => []) [] [] (fun β => []) (by kernel_rfl) (fun β extra => by kernel_rfl) (by kernel_rfl) (fun β => trivial)⟩,
                          tri_quietW (fun β => []) [] [] (fun β => []) (by kernel_rfl) (fun β extra => by kernel_rfl) (by kernel_rfl) (fun β => trivial)⟩,
                          tri_callVW (fun β => .bool true) (fun β => by kernel_rfl) 59 (fun β => #[iV m]) (by kernel_rfl) (fun β extra => by kernel_rfl) (fun β => by kernel_rfl) (fun β w1 k1 h1 => (by have h := rlimit_any m w1; rw [hd1] at h; exact h))⟩,
                          tri_quietW (fun β => []) [] [] (fun β => []) (by kernel_rfl) (fun β extra => by kernel_rfl) (by kernel_rfl) (fun β => trivial)⟩,
                          tri_quietW (fun β => []) [] [] (fun β => []) (by kernel_rfl) (fun β extra => by kernel_rfl) (by kernel_rfl) (fun β => trivial)⟩,
                          tri_callVW (fun β => .bool true) (fun β => by kernel_rfl) 81 (fun β => #[.slice la L.length lc]) (by kernel_rfl) (fun β extra => by kernel_rfl) (fun β => by kernel_rfl) (fun β w1 k1 h1 => (by have h := rdays_any L la lc w1 (hL.keep (k1.keeps (fun _ h => h))) hlm; rw [hd2] at h; exact h))⟩,
                          tri_quietW (fun β => []) [] [] (fun β => []) (by kernel_rfl) (fun β extra => by kernel_rfl) (by kernel_rfl) (fun β => trivial)⟩,
                          tri_callVW (fun β => iV 10) (fun β => by kernel_rfl) 46 (fun β => #[.agg #[iV p.ll, iV p.lh, iV p.ul, iV p.uh, .slice p.ea p.es.length p.ec], iV (L.length : Int), .bool true]) (by kernel_rfl) (fun β extra => by kernel_rfl) (fun β => by kernel_rfl) (fun β w1 k1 h1 => (by have h := check_any p (L.length : Int) true w1 (hp.keep (k1.keeps (fun _ h => h))); rw [show chkR p (L.length : Int) true = 10 from by unfold chkR; rw [hd3, hd4, hd5]; rfl] at h; exact h))⟩,
                          tri_quietW (fun β => []) [] [] (fun β => []) (by kernel_rfl) (fun β extra => by kernel_rfl) (by kernel_rfl) (fun β => trivial)⟩
                          (fun β => ⟨[(1, iV m), (2, .slice la L.length lc), (3, pA b1), (6, iV 0), (7, iV 0), (8, iV 10)], [(b1, aO #[iV p.ll, iV p.lh, iV p.ul, iV p.uh, .slice p.ea p.es.length p.ec] 26)]⟩) (fun β => by kernel_rfl) (fun β2 => ?_)
            refine run_auto [(22, .bool true)] 13 [true] [] [1, 2, 3, 6, 7] [0] (st' := ⟨[(1, iV m), (2, .slice la L.length lc), (3, pA b1), (6, iV 0), (7, iV 10)], [(b1, aO #[iV p.ll, iV p.lh, iV p.ul, iV p.uh, .slice p.ea p.es.length p.ec] 26)]⟩) (acc := [(.bool true, .bool true), (.bool true, .bool true)]) (by kernel_rfl) (by kernel_rfl) ⟨rfl, rfl, trivial⟩ ?_
            refine run_end (fn := f25) rfl (Nat.le_refl _) (by kernel_rfl) [] [iV 0, iV 10] (e := []) (by kernel_rfl) trivial (fun w1 k1 h1 => ?_)
            unfold dayR
            try rw [hd3]
            try rw [show decide (L.length ≤ 10) = true from decide_eq_true (by omega)]
            try rw [hd1]
            try rw [hd2]
            try rw [hd5]
            exact ⟨rfl, k1.keeps (fun _ h => h)⟩
          | true =>
            have hKb := mC_bd hF (Nat.le_refl p.es.length)
            unfold bdS at hKb
            have hu0 : 0 ≤ p.ul ∧ p.ul ≤ p.uh ∧ p.uh ≤ 3 := hF.u
            refine drawW 11 [{ val := fun _ => .agg #[iV p.ll, iV p.lh, iV p.ul, iV p.uh, .slice p.ea p.es.length p.ec], slots := [3], reads := [0] },
                          { val := fun _ => .slice la L.length lc, slots := [2] },
                          { val := fun _ => iV (L.length : Int), slots := [12] },
                          { val := fun _ => iV m, slots := [1] },
                          { val := fun _ => .bool true, slots := [14] },
                          { val := fun _ => .bool true, slots := [15] },
                          { val := fun _ => .slice la L.length lc, slots := [2, 16] },
                          { val := fun _ => .bool true, slots := [16, 17] },
                          { val := fun _ => .bool true, slots := [16, 18] },
                          { val := fun _ => iV 0, slots := [11, 13, 19] },
                          { val := fun _ => iV 0, slots := [20] }] [[], [], [1], [], [3], [3, 4], [3, 4, 5], [3, 4, 5, 6], [3, 4, 5, 6, 7], [0, 1, 2, 3, 4, 5, 6, 7, 8], [0, 1, 2, 3, 4, 5, 6, 7, 8, 9]] (by kernel_rfl) (by kernel_rfl) (by kernel_rfl) (by kernel_rfl) [1, 2, 3, 6, 7, 8] [0] (by kernel_rfl)
                          ⟨⟨⟨⟨⟨⟨⟨⟨⟨⟨⟨trivial,
                          tri_quietW (fun β => []) [0] [0] (fun β => [(pA b1, pA b1)]) (by kernel_rfl) (fun β extra => by kernel_rfl) (by kernel_rfl) (fun β => ⟨rfl, trivial⟩)⟩,
                          tri_quietW (fun β => []) [] [] (fun β => []) (by kernel_rfl) (fun β extra => by kernel_rfl) (by kernel_rfl) (fun β => trivial)⟩,
                          tri_quietW (fun β => []) [] [] (fun β => []) (by kernel_rfl) (fun β extra => by kernel_rfl) (by kernel_rfl) (fun β => trivial)⟩,
                          tri_quietW (fun β => []) [] [] (fun β => []) (by kernel_rfl) (fun β extra => by kernel_rfl) (by kernel_rfl) (fun β => trivial)⟩,
                          tri_callVW (fun β => .bool true) (fun β => by kernel_rfl) 59 (fun β => #[iV m]) (by kernel_rfl) (fun β extra => by kernel_rfl) (fun β => by kernel_rfl) (fun β w1 k1 h1 => (by have h := rlimit_any m w1; rw [hd1] at h; exact h))⟩,
                          tri_quietW (fun β => []) [] [] (fun β => []) (by kernel_rfl) (fun β extra => by kernel_rfl) (by kernel_rfl) (fun β => trivial)⟩,
                          tri_quietW (fun β => []) [] [] (fun β => []) (by kernel_rfl) (fun β extra => by kernel_rfl) (by kernel_rfl) (fun β => trivial)⟩,
                          tri_callVW (fun β => .bool true) (fun β => by kernel_rfl) 81 (fun β => #[.slice la L.length lc]) (by kernel_rfl) (fun β extra => by kernel_rfl) (fun β => by kernel_rfl) (fun β w1 k1 h1 => (by have h := rdays_any L la lc w1 (hL.keep (k1.keeps (fun _ h => h))) hlm; rw [hd2] at h; exact h))⟩,
                          tri_quietW (fun β => []) [] [] (fun β => []) (by kernel_rfl) (fun β extra => by kernel_rfl) (by kernel_rfl) (fun β => trivial)⟩,
                          tri_callVW (fun β => iV 0) (fun β => by kernel_rfl) 46 (fun β => #[.agg #[iV p.ll, iV p.lh, iV p.ul, iV p.uh, .slice p.ea p.es.length p.ec], iV (L.length : Int), .bool true]) (by kernel_rfl) (fun β extra => by kernel_rfl) (fun β => by kernel_rfl) (fun β w1 k1 h1 => (by have h := check_any p (L.length : Int) true w1 (hp.keep (k1.keeps (fun _ h => h))); rw [show chkR p (L.length : Int) true = 0 from by unfold chkR; rw [hd3, hd4, hd5]; rfl] at h; exact h))⟩,
                          tri_quietW (fun β => []) [] [] (fun β => []) (by kernel_rfl) (fun β extra => by kernel_rfl) (by kernel_rfl) (fun β => trivial)⟩
                          (fun β => ⟨[(1, iV m), (2, .slice la L.length lc), (3, pA b1), (6, iV 0), (7, iV 0), (8, iV 0)], [(b1, aO #[iV p.ll, iV p.lh, iV p.ul, iV p.uh, .slice p.ea p.es.length p.ec] 26)]⟩) (fun β => by kernel_rfl) (fun β2 => ?_)
            refine run_auto [(22, .bool false)] 14 [false] [0, 0] [1, 2, 3, 6, 7, 24, 27] [0] (st' := ⟨[(1, iV m), (2, .slice la L.length lc), (3, pA b1), (6, iV 0), (7, iV 0), (24, .agg #[iV p.ll, iV p.lh, iV p.ul, iV p.uh, .slice p.ea p.es.length p.ec]), (27, iV (p.es.length : Int))], [(b1, aO #[iV p.ll, iV p.lh, iV p.ul, iV p.uh, .slice p.ea p.es.length p.ec] 26)]⟩) (acc := [(pA b1, pA b1), (pA b1, pA b1), (.bool false, .bool false), (.bool false, .bool false)]) (by kernel_rfl) (by kernel_rfl) ⟨rfl, rfl, rfl, rfl, trivial⟩ ?_
            refine run_ret1 48 #[.agg #[iV p.ll, iV p.lh, iV p.ul, iV p.uh, .slice p.ea p.es.length p.ec], iV (p.es.length : Int)] (some 28) (.agg #[iV (mC p.n p.es.length).1, iV (mC p.n p.es.length).2]) (by kernel_rfl) (fun w1 k1 h1 => rafter_any p p.es.length w1 (hp.keep (k1.keeps (fun _ h => h))) hF hd5 (by omega)) ?_
            refine run_auto [] 9 [] [] [1, 2, 3, 6, 7, 9, 10] [0] (st' := ⟨[(1, iV m), (2, .slice la L.length lc), (3, pA b1), (6, iV 0), (7, iV 0), (9, iV (mC p.n p.es.length).1), (10, iV 0)], [(b1, aO #[iV p.ll, iV p.lh, iV p.ul, iV p.uh, .slice p.ea p.es.length p.ec] 26)]⟩) (acc := []) (by kernel_rfl) (by kernel_rfl) trivial ?_
            refine run_auto [] 0 [] [] [1, 2, 3, 6, 7, 9, 10] [0] (st' := ⟨[(1, iV m), (2, .slice la L.length lc), (3, pA b1), (6, iV 0), (7, iV 0), (9, iV (mC p.n p.es.length).1), (10, iV 0)], [(b1, aO #[iV p.ll, iV p.lh, iV p.ul, iV p.uh, .slice p.ea p.es.length p.ec] 26)]⟩) (acc := []) (by kernel_rfl) (by kernel_rfl) trivial ?_
            refine run_loop (S := fun (j : Nat) => ⟨[(1, iV m), (2, .slice la L.length lc), (3, pA b1), (6, iV 0), (7, iV 0), (9, iV (nowS p L j)), (10, iV (j : Int))], [(b1, aO #[iV p.ll, iV p.lh, iV p.ul, iV p.uh, .slice p.ea p.es.length p.ec] 26)]⟩) (fun j => j ≤ L.length ∧ ∀ q, q < j → m ≤ nowS p L (q + 1)) (fun j => L.length - j) (0) (by kernel_rfl) (⟨Nat.zero_le _, fun q h => by cases h⟩) (by simp [now_zero]) (fun j hI0 J0 hJ0 => ?_)
            obtain ⟨hj1, hj2⟩ := hI0
            cases hd6 : (decide ((j : Int) < (L.length : Int))) with
            | false =>
              have hp6 := of_decide_eq_false hd6
              refine run_auto [(33, .bool false)] 15 [false] [] [6, 7] [] (st' := ⟨[(6, iV 0), (7, iV 4)], []⟩) (acc := [(.bool false, .bool false), (.bool (decide ((j : Int) < (L.length : Int))), .bool false)]) (by kernel_rfl) (by kernel_rfl) ⟨rfl, (bo hd6), trivial⟩ ?_
              refine run_end (fn := f25) rfl (Nat.le_refl _) (by kernel_rfl) [] [iV 0, iV 4] (e := []) (by kernel_rfl) trivial (fun w1 k1 h1 => ?_)
              have hY := day_is hF hd5 hD10 hd2 hd1 rfl rfl
              have hq := hY.done (fun q hq => hj2 q (by omega))
              rw [hq.1, hq.2]
              exact ⟨rfl, k1.keeps (fun _ h => h)⟩
            | true =>
              have hp6 := of_decide_eq_true hd6
              have hil : j < L.length := by omega
              obtain ⟨b_, o_, hla, hc_⟩ := hL (by intro h; rw [h] at hil; cases hil)
              have hci := hc_ j hil
              have hv := hd2
              have hjb := use_of hv hil
              have hjm : 0 ≤ elI L j * p.uh ∧ elI L j * p.uh ≤ 60 := ⟨Int.mul_nonneg hjb.1 (by omega), by have := Int.mul_le_mul hjb.2 hu0.2.2 (by omega) (by omega : (0 : Int) ≤ 20); omega⟩
              have hnb := now_bd hF hD10 hv (i := j) (by omega)
              have hnx := now_next (p := p) hil
              refine run_auto [(33, .bool true)] 13 [true] [] [1, 2, 3, 6, 7, 9, 10] [0] (st' := ⟨[(1, iV m), (2, .slice la L.length lc), (3, pA b1), (6, iV 0), (7, iV 0), (9, iV (nowS p L j)), (10, iV (j : Int))], [(b1, aO #[iV p.ll, iV p.lh, iV p.ul, iV p.uh, .slice p.ea p.es.length p.ec] 26)]⟩) (acc := [(.bool true, .bool true), (.bool (decide ((j : Int) < (L.length : Int))), .bool true)]) (by kernel_rfl) (by kernel_rfl) ⟨rfl, (bo hd6), trivial⟩ ?_
              refine drawW 11 [{ val := fun _ => iV (nowS p L j), slots := [9] },
                              { val := fun _ => .slice la L.length lc, slots := [2] },
                              { val := fun _ => iV (j : Int), slots := [10] },
                              { val := fun _ => .pointer (some ⟨b_, o_ + j, none⟩), slots := [37, 38] },
                              { val := fun _ => iV (elI L j), slots := [39] },
                              { val := fun _ => .pointer (some ⟨b1, 2, none⟩), slots := [3] },
                              { val := fun _ => .pointer (some ⟨b1, 3, none⟩), slots := [41] },
                              { val := fun _ => iV p.uh, slots := [42], reads := [0] },
                              { val := fun _ => iV ((elI L j) * p.uh), slots := [40, 43] },
                              { val := fun _ => iV ((nowS p L j) - ((elI L j) * p.uh)), slots := [36, 44] },
                              { val := fun _ => iV ((nowS p L j) - ((elI L j) * p.uh)), slots := [45] }] [[], [], [], [1, 2], [1, 2, 3], [], [5], [5, 6], [1, 2, 3, 4, 5, 6, 7], [0, 1, 2, 3, 4, 5, 6, 7, 8], [0, 1, 2, 3, 4, 5, 6, 7, 8, 9]] (by kernel_rfl) (by kernel_rfl) (by kernel_rfl) (by kernel_rfl) [1, 2, 3, 6, 7, 9, 10] [0] (by kernel_rfl)
                              ⟨⟨⟨⟨⟨⟨⟨⟨⟨⟨⟨trivial,
                              tri_quietW (fun β => []) [] [] (fun β => []) (by kernel_rfl) (fun β extra => by kernel_rfl) (by kernel_rfl) (fun β => trivial)⟩,
                              tri_quietW (fun β => []) [] [] (fun β => []) (by kernel_rfl) (fun β extra => by kernel_rfl) (by kernel_rfl) (fun β => trivial)⟩,
                              tri_quietW (fun β => []) [] [] (fun β => []) (by kernel_rfl) (fun β extra => by kernel_rfl) (by kernel_rfl) (fun β => trivial)⟩,
                              tri_vVW (fun β => .pointer (some ⟨b_, o_ + j, none⟩)) (fun β => by kernel_rfl) (fun β => (Instr.indexAt 38 (.slice la L.length lc) (iV (j : Int)) >>= fun v => pure (Next.value v))) (by kernel_rfl) (fun β extra => by kernel_rfl) (fun β => by kernel_rfl) (fun β w1 k1 h1 => (by rw [hla]; exact idx_off (e := 3) (n := 1) (by kernel_rfl) (by kernel_rfl) b_ o_ L.length lc .i64 j hil (o_ + j) (by omega) w1))⟩,
                              tri_vVW (fun β => iV (elI L j)) (fun β => by kernel_rfl) (fun β => (Instr.loadAt 3 (.pointer (some ⟨b_, o_ + j, none⟩)) >>= fun v => pure (Next.value v))) (by kernel_rfl) (fun β extra => by kernel_rfl) (fun β => by kernel_rfl) (fun β w1 k1 h1 => load_in (off := 0) k1 (fun h => h) [iV (elI L j)] (c1 (j := j) hci) (by kernel_rfl))⟩,
                              tri_quietW (fun β => []) [] [] (fun β => []) (by kernel_rfl) (fun β extra => by kernel_rfl) (by kernel_rfl) (fun β => trivial)⟩,
                              tri_quietW (fun β => []) [] [] (fun β => []) (by kernel_rfl) (fun β extra => by kernel_rfl) (by kernel_rfl) (fun β => trivial)⟩,
                              tri_quietW (fun β => []) [0] [0] (fun β => [(pA b1, pA b1)]) (by kernel_rfl) (fun β extra => by kernel_rfl) (by kernel_rfl) (fun β => ⟨rfl, trivial⟩)⟩,
                              tri_quietW (fun β => [(44, iV ((elI L j) * p.uh))]) [] [] (fun β => [(iV (IntKind.i64.wrap ((elI L j) * p.uh)), iV ((elI L j) * p.uh))]) (by kernel_rfl) (fun β extra => by kernel_rfl) (by kernel_rfl) (fun β => ⟨(wr (by omega) (by omega)), trivial⟩)⟩,
                              tri_quietW (fun β => [(45, iV ((nowS p L j) - ((elI L j) * p.uh)))]) [] [] (fun β => [(iV (IntKind.i64.wrap ((nowS p L j) - ((elI L j) * p.uh))), iV ((nowS p L j) - ((elI L j) * p.uh)))]) (by kernel_rfl) (fun β extra => by kernel_rfl) (by kernel_rfl) (fun β => ⟨(wr (by omega) (by omega)), trivial⟩)⟩,
                              tri_quietW (fun β => []) [] [] (fun β => []) (by kernel_rfl) (fun β extra => by kernel_rfl) (by kernel_rfl) (fun β => trivial)⟩
                              (fun β => ⟨[(1, iV m), (2, .slice la L.length lc), (3, pA b1), (6, iV 0), (7, iV 0), (9, iV ((nowS p L j) - ((elI L j) * p.uh))), (10, iV (j : Int))], [(b1, aO #[iV p.ll, iV p.lh, iV p.ul, iV p.uh, .slice p.ea p.es.length p.ec] 26)]⟩) (fun β => by kernel_rfl) (fun β3 => ?_)
              cases hd7 : (decide (((nowS p L j) - ((elI L j) * p.uh)) < m)) with
              | false =>
                have hp7 := of_decide_eq_false hd7
                refine run_auto [(48, .bool false), (35, iV ((j + 1 : Nat) : Int))] 14 [false] [] [1, 2, 3, 6, 7, 9, 10] [0] (st' := ⟨[(1, iV m), (2, .slice la L.length lc), (3, pA b1), (6, iV 0), (7, iV 0), (9, iV ((nowS p L j) - ((elI L j) * p.uh))), (10, iV ((j + 1 : Nat) : Int))], [(b1, aO #[iV p.ll, iV p.lh, iV p.ul, iV p.uh, .slice p.ea p.es.length p.ec] 26)]⟩) (acc := [(iV (IntKind.i64.wrap ((j : Int) + 1)), iV ((j + 1 : Nat) : Int)), (.bool false, .bool false), (.bool (decide (((nowS p L j) - ((elI L j) * p.uh)) < m)), .bool false)]) (by kernel_rfl) (by kernel_rfl) ⟨(wr (by omega) (by omega)), rfl, (bo hd7), trivial⟩ ?_
                have hj := hJ0 (j + 1) (⟨by omega, fun q hq => (Nat.lt_succ_iff_lt_or_eq.1 hq).elim (hj2 q) (fun h => by rw [h]; omega)⟩) (by omega)
                rw [hnx] at hj
                exact run_round (by kernel_rfl) hj
              | true =>
                have hp7 := of_decide_eq_true hd7
                refine run_auto [(48, .bool true)] 13 [true] [] [1, 2, 3, 6, 7, 9, 10] [0] (st' := ⟨[(1, iV m), (2, .slice la L.length lc), (3, pA b1), (6, iV (j : Int)), (7, iV 0), (9, iV ((nowS p L j) - ((elI L j) * p.uh))), (10, iV (j : Int))], [(b1, aO #[iV p.ll, iV p.lh, iV p.ul, iV p.uh, .slice p.ea p.es.length p.ec] 26)]⟩) (acc := [(.bool true, .bool true), (.bool (decide (((nowS p L j) - ((elI L j) * p.uh)) < m)), .bool true)]) (by kernel_rfl) (by kernel_rfl) ⟨rfl, (bo hd7), trivial⟩ ?_
                refine run_end (fn := f25) rfl (Nat.le_refl _) (by kernel_rfl) [] [iV (j : Int), iV 0] (e := []) (by kernel_rfl) trivial (fun w1 k1 h1 => ?_)
                have hY := day_is hF hd5 hD10 hd2 hd1 rfl rfl
                have hq := hY.hit hil (by omega) hj2
                rw [hq.1, hq.2]
                exact ⟨rfl, k1.keeps (fun _ h => h)⟩
        | true =>
          have hp4 := of_decide_eq_true hd4
          refine drawW 11 [{ val := fun _ => .agg #[iV p.ll, iV p.lh, iV p.ul, iV p.uh, .slice p.ea p.es.length p.ec], slots := [3], reads := [0] },
                      { val := fun _ => .slice la L.length lc, slots := [2] },
                      { val := fun _ => iV (L.length : Int), slots := [12] },
                      { val := fun _ => iV m, slots := [1] },
                      { val := fun _ => .bool true, slots := [14] },
                      { val := fun _ => .bool true, slots := [15] },
                      { val := fun _ => .slice la L.length lc, slots := [2, 16] },
                      { val := fun _ => .bool true, slots := [16, 17] },
                      { val := fun _ => .bool true, slots := [16, 18] },
                      { val := fun _ => iV 3, slots := [11, 13, 19] },
                      { val := fun _ => iV 3, slots := [20] }] [[], [], [1], [], [3], [3, 4], [3, 4, 5], [3, 4, 5, 6], [3, 4, 5, 6, 7], [0, 1, 2, 3, 4, 5, 6, 7, 8], [0, 1, 2, 3, 4, 5, 6, 7, 8, 9]] (by kernel_rfl) (by kernel_rfl) (by kernel_rfl) (by kernel_rfl) [1, 2, 3, 6, 7, 8] [0] (by kernel_rfl)
                      ⟨⟨⟨⟨⟨⟨⟨⟨⟨⟨⟨trivial,
                      tri_quietW (fun β => []) [0] [0] (fun β => [(pA b1, pA b1)]) (by kernel_rfl) (fun β extra => by kernel_rfl) (by kernel_rfl) (fun β => ⟨rfl, trivial⟩)⟩,
                      tri_quietW (fun β => []) [] [] (fun β => []) (by kernel_rfl) (fun β extra => by kernel_rfl) (by kernel_rfl) (fun β => trivial)⟩,
                      tri_quietW (fun β => []) [] [] (fun β => []) (by kernel_rfl) (fun β extra => by kernel_rfl) (by kernel_rfl) (fun β => trivial)⟩,
                      tri_quietW (fun β => []) [] [] (fun β => []) (by kernel_rfl) (fun β extra => by kernel_rfl) (by kernel_rfl) (fun β => trivial)⟩,
                      tri_callVW (fun β => .bool true) (fun β => by kernel_rfl) 59 (fun β => #[iV m]) (by kernel_rfl) (fun β extra => by kernel_rfl) (fun β => by kernel_rfl) (fun β w1 k1 h1 => (by have h := rlimit_any m w1; rw [hd1] at h; exact h))⟩,
                      tri_quietW (fun β => []) [] [] (fun β => []) (by kernel_rfl) (fun β extra => by kernel_rfl) (by kernel_rfl) (fun β => trivial)⟩,
                      tri_quietW (fun β => []) [] [] (fun β => []) (by kernel_rfl) (fun β extra => by kernel_rfl) (by kernel_rfl) (fun β => trivial)⟩,
                      tri_callVW (fun β => .bool true) (fun β => by kernel_rfl) 81 (fun β => #[.slice la L.length lc]) (by kernel_rfl) (fun β extra => by kernel_rfl) (fun β => by kernel_rfl) (fun β w1 k1 h1 => (by have h := rdays_any L la lc w1 (hL.keep (k1.keeps (fun _ h => h))) hlm; rw [hd2] at h; exact h))⟩,
                      tri_quietW (fun β => []) [] [] (fun β => []) (by kernel_rfl) (fun β extra => by kernel_rfl) (by kernel_rfl) (fun β => trivial)⟩,
                      tri_callVW (fun β => iV 3) (fun β => by kernel_rfl) 46 (fun β => #[.agg #[iV p.ll, iV p.lh, iV p.ul, iV p.uh, .slice p.ea p.es.length p.ec], iV (L.length : Int), .bool true]) (by kernel_rfl) (fun β extra => by kernel_rfl) (fun β => by kernel_rfl) (fun β w1 k1 h1 => (by have h := check_any p (L.length : Int) true w1 (hp.keep (k1.keeps (fun _ h => h))); rw [show chkR p (L.length : Int) true = 3 from by unfold chkR; rw [hd3, hd4]; rfl] at h; exact h))⟩,
                      tri_quietW (fun β => []) [] [] (fun β => []) (by kernel_rfl) (fun β extra => by kernel_rfl) (by kernel_rfl) (fun β => trivial)⟩
                      (fun β => ⟨[(1, iV m), (2, .slice la L.length lc), (3, pA b1), (6, iV 0), (7, iV 0), (8, iV 3)], [(b1, aO #[iV p.ll, iV p.lh, iV p.ul, iV p.uh, .slice p.ea p.es.length p.ec] 26)]⟩) (fun β => by kernel_rfl) (fun β2 => ?_)
          refine run_auto [(22, .bool true)] 13 [true] [] [1, 2, 3, 6, 7] [0] (st' := ⟨[(1, iV m), (2, .slice la L.length lc), (3, pA b1), (6, iV 0), (7, iV 3)], [(b1, aO #[iV p.ll, iV p.lh, iV p.ul, iV p.uh, .slice p.ea p.es.length p.ec] 26)]⟩) (acc := [(.bool true, .bool true), (.bool true, .bool true)]) (by kernel_rfl) (by kernel_rfl) ⟨rfl, rfl, trivial⟩ ?_
          refine run_end (fn := f25) rfl (Nat.le_refl _) (by kernel_rfl) [] [iV 0, iV 3] (e := []) (by kernel_rfl) trivial (fun w1 k1 h1 => ?_)
          unfold dayR
          try rw [hd3]
          try rw [show decide (L.length ≤ 10) = false from decide_eq_false (by omega)]
          try rw [hd1]
          try rw [hd2]
          exact ⟨rfl, k1.keeps (fun _ h => h)⟩

end Go.Proofs.YtdjnkdelmmpleaaGreat

namespace Go.Proofs.YtdjnkdelmmpleaaGreat
open Go.RowKit Go.Proofs.Tryz


theorem bits_half : ∀ s : Nat, s < 256 → bitsN s = s % 2 + bitsN (s / 2) ∧ bitsN s ≤ 8 := by decide +kernel
set_option maxRecDepth 100000 in
theorem rsize_any (s : Nat) (hs : s < 256) (w : World)  : Calls Tryz.prog 37 #[.int .i64 (s : Int)] w (RetI (bitsN s : Nat) w) := by
  refine calls_run (fn := f37) (c := (f37.body).getD .skip) [.int .i64 (s : Int)] func37 (by kernel_rfl) (fun _ => False) [] (fun _ h => by cases h) (List.Pairwise.nil) 13 (by kernel_rfl) (by simp) ?_
  refine run_auto [] 10 [] [] [0, 2, 3] [] (st' := ⟨[(0, iV (s : Int)), (2, iV 0), (3, iV 0)], []⟩) (acc := []) (by kernel_rfl) (by kernel_rfl) trivial ?_
  refine run_auto [] 0 [] [] [0, 2, 3] [] (st' := ⟨[(0, iV (s : Int)), (2, iV 0), (3, iV 0)], []⟩) (acc := []) (by kernel_rfl) (by kernel_rfl) trivial ?_
  refine run_loop (S := fun (v : Nat × Nat) => ⟨[(0, iV (v.1 : Int)), (2, iV 0), (3, iV (v.2 : Int))], []⟩) (fun v => v.1 < 256 ∧ v.2 + bitsN v.1 = bitsN s) (fun v => v.1) ((s, 0)) (by kernel_rfl) (⟨hs, Nat.zero_add _⟩) (by kernel_rfl) (fun v hI0 J0 hJ0 => ?_)
  obtain ⟨cur, cnt⟩ := v
  obtain ⟨hI1, hI2⟩ := hI0
  dsimp only at hI1 hI2 hJ0
  have hbh := bits_half cur hI1
  have hb8 := bits_half s hs
  cases hd1 : (decide (0 < (cur : Int))) with
  | false =>
    have hp1 := of_decide_eq_false hd1
    refine run_auto [(5, .bool false)] 13 [false] [] [2] [] (st' := ⟨[(2, iV (cnt : Int))], []⟩) (acc := [(.bool false, .bool false), (.bool (decide (0 < (cur : Int))), .bool false)]) (by kernel_rfl) (by kernel_rfl) ⟨rfl, (bo hd1), trivial⟩ ?_
    refine run_end (fn := f37) rfl (Nat.le_refl _) (by kernel_rfl) [] [iV (cnt : Int)] (e := []) (by kernel_rfl) trivial (fun w1 k1 h1 => ?_)
    obtain rfl : cur = 0 := by omega
    have h0 : bitsN 0 = 0 := by decide +kernel
    rw [h0] at hI2
    exact ⟨by rw [← hI2]; rfl, k1.keeps (fun _ h => h)⟩
  | true =>
    have hp1 := of_decide_eq_true hd1
    refine run_auto [(5, .bool true), (8, iV ((cur : Int) % 2)), (9, iV ((cnt : Int) + ((cur : Int) % 2))), (11, iV ((cur : Int) / 2))] 20 [true] [] [0, 2, 3] [] (st' := ⟨[(0, iV ((cur : Int) / 2)), (2, iV 0), (3, iV ((cnt : Int) + ((cur : Int) % 2)))], []⟩) (acc := [(iV (IntKind.i64.wrap (Int.tdiv (cur : Int) 2)), iV ((cur : Int) / 2)), (iV (IntKind.i64.wrap ((cnt : Int) + ((cur : Int) % 2))), iV ((cnt : Int) + ((cur : Int) % 2))), (iV (Int.tmod (cur : Int) 2), iV ((cur : Int) % 2)), (.bool true, .bool true), (.bool (decide (0 < (cur : Int))), .bool true)]) (by kernel_rfl) (by kernel_rfl) ⟨(qt 2 (by omega) (by omega) (by omega)), (wr (by omega) (by omega)), (rm 2 (by omega)), rfl, (bo hd1), trivial⟩ ?_
    rw [show ((cnt : Int) + (cur : Int) % 2) = ((cnt + cur % 2 : Nat) : Int) by omega, show ((cur : Int) / 2) = ((cur / 2 : Nat) : Int) by omega]
    exact run_round (by kernel_rfl) (hJ0 ((cur / 2, cnt + cur % 2)) (⟨by dsimp only; omega, by dsimp only; omega⟩) (by dsimp only; omega))


theorem nx_look {u : Sp} {e : Ev} {s k : Nat} {l : Sp} : nxE u e (s.testBit k) l = nxE u (lkE s k e) true l := by
  unfold lkE
  by_cases h1 : e.1 = 1
  · cases hb : s.testBit k with
    | true => rw [show (e.1 == 1 && !true) = false from by simp]; rfl
    | false =>
      rw [show (e.1 == 1 && !false) = true from by simpa using h1]
      simp [nxE, takS, manS, h1]
  · rw [show (e.1 == 1 && !s.testBit k) = false from by simp [h1]]
    unfold nxE
    rw [cond_false, show (e.1 == 1) = false by simpa using h1]
    rfl
def Wb.lk (p : Wb) (s : Nat) : Wb := { p with es := lkL s p.es }
theorem rn_look (p : Wb) (s : Nat) : ∀ (n i : Nat) (l : Sp), i + n ≤ p.es.length → rnF (p.ul, p.uh) p.es s n i l = rnF (p.ul, p.uh) (lkL s p.es) (p.lk s).all n i l
  | 0, _, _, _ => rfl
  | n + 1, i, l, h => by
    have hb : (p.lk s).all.testBit i = true := all_bit (by show i < (lkL s p.es).length; rw [lkL_len]; omega)
    rw [rnF_step, rnF_step, hb, lkL_at s (show i < p.es.length by omega), ← nx_look, rn_look p s n (i + 1) _ (by omega)]
theorem can_look {p : Wb} (hF : p.n.Fine) (s : Nat) : possS (rnF (p.ul, p.uh) p.es s p.es.length 0 (p.ll, p.lh)) = (p.n.look s).can := by
  rw [rn_look p s _ _ _ (by omega)]
  have h := can_rn (p := p.lk s) (hF.look s)
  rw [show (p.lk s).es.length = p.es.length from lkL_len _ _] at h
  exact h
theorem ff_sorted (of : Nat) : (ffL of).Pairwise Before := by
  unfold ffL ffP
  rw [List.range_zero, List.filter_nil, List.append_nil, List.pairwise_flatMap]
  refine ⟨fun size _ => ?_, ?_⟩
  · refine List.Pairwise.imp_of_mem ?_ (List.Pairwise.filter _ List.pairwise_lt_range)
    intro a b ha hb hab
    have h1 := (List.mem_filter.1 ha).2
    have h2 := (List.mem_filter.1 hb).2
    unfold ffB at h1 h2
    simp only [Bool.and_eq_true, beq_iff_eq] at h1 h2
    exact .inr ⟨h1.2.trans h2.2.symm, hab⟩
  · refine List.Pairwise.imp ?_ List.pairwise_lt_range
    intro a b hab x hx y hy
    have h1 := (List.mem_filter.1 hx).2
    have h2 := (List.mem_filter.1 hy).2
    unfold ffB at h1 h2
    simp only [Bool.and_eq_true, beq_iff_eq] at h1 h2
    exact .inl (by omega)
theorem sub_le {s t : Nat} (h : subB s t = true) : s ≤ t ∧ bitsN s ≤ bitsN t := by
  have h : s &&& t = s := by unfold subB at h; simpa using h
  refine ⟨by have := Nat.and_le_right (n := s) (m := t); omega, ?_⟩
  unfold bitsN
  refine List.countP_mono_left fun i _ hi => ?_
  rw [← h, Nat.testBit_and, Bool.and_eq_true] at hi
  exact hi.2
theorem Before.irr {s : Nat} (h : Before s s) : False := by rcases h with h | h <;> omega
theorem Before.tr {a b c : Nat} (h : Before a b) (g : Before b c) : Before a c := by
  unfold Before at *
  omega
/-- Readings that clash. -/
def godB (w : Wn) (s : Nat) : Bool := subB s w.reads && w.clB s
def BestO (w : Wn) (t : Nat) : Option Nat → Prop
  | none => ∀ s, s < t → godB w s = false
  | some y => y < t ∧ godB w y = true ∧ ∀ s, s < t → godB w s = true → s = y ∨ Before y s
theorem best_not {w : Wn} {t : Nat} {o : Option Nat} (h : BestO w t o) (hg : godB w t = false) : BestO w (t + 1) o := by
  cases o with
  | none => exact fun s hs => (Nat.lt_succ_iff_lt_or_eq.1 hs).elim (h s) (fun e => e ▸ hg)
  | some y =>
    refine ⟨by have := h.1; omega, h.2.1, fun s hs hgs => (Nat.lt_succ_iff_lt_or_eq.1 hs).elim (fun hl => h.2.2 s hl hgs) (fun e => ?_)⟩
    subst e
    rw [hg] at hgs
    cases hgs
theorem best_first {w : Wn} {t : Nat} (h : BestO w t none) (hg : godB w t = true) : BestO w (t + 1) (some t) := by
  refine ⟨by omega, hg, fun s hs hgs => (Nat.lt_succ_iff_lt_or_eq.1 hs).elim (fun hl => ?_) .inl⟩
  rw [h s hl] at hgs
  cases hgs
theorem best_less {w : Wn} {t y : Nat} (h : BestO w t (some y)) (hg : godB w t = true) (hl : bitsN t < bitsN y) : BestO w (t + 1) (some t) := by
  refine ⟨by omega, hg, fun s hs hgs => (Nat.lt_succ_iff_lt_or_eq.1 hs).elim (fun hlt => ?_) .inl⟩
  rcases h.2.2 s hlt hgs with rfl | hb
  · exact .inr (.inl hl)
  · exact .inr (Before.tr (.inl hl) hb)
theorem best_more {w : Wn} {t y : Nat} (h : BestO w t (some y)) (hl : ¬ bitsN t < bitsN y) : BestO w (t + 1) (some y) := by
  refine ⟨by have := h.1; omega, h.2.1, fun s hs hgs => (Nat.lt_succ_iff_lt_or_eq.1 hs).elim (fun hlt => h.2.2 s hlt hgs) (fun e => ?_)⟩
  subst e
  have := h.1
  by_cases e : bitsN y = bitsN s
  · exact .inr (.inr ⟨e, by omega⟩)
  · exact .inr (.inl (by omega))
theorem best_is {p : Wb} (hc : p.n.can = false) {o : Option Nat} (h : BestO p.n (p.all + 1) o) : o = p.n.cl := by
  have hr : p.n.reads ≤ p.all := by
    have h1 : p.n.reads < 2 ^ p.es.length := bitsP_lt (fun k => (elE p.n.es k).1 == 1) p.es.length
    unfold Wb.all
    omega
  obtain ⟨y, hy⟩ := Option.isSome_iff_exists.1 (cl_some hc)
  rw [hy]
  obtain ⟨a, b, hl, hp, ha⟩ := firstL_some (show firstL p.n.clB (ffL p.n.reads) = some y from hy)
  have hm : y ∈ ffL p.n.reads := by rw [hl]; simp
  have hym := ff_mem.1 hm
  have hg : godB p.n y = true := by unfold godB; rw [hym.2.1, hp]; rfl
  have hs := ff_sorted p.n.reads
  rw [hl] at hs
  have hmin : ∀ s, godB p.n s = true → s = y ∨ Before y s := by
    intro s hgs
    unfold godB at hgs
    simp only [Bool.and_eq_true] at hgs
    have hle := sub_le hgs.1
    have hsm : s ∈ ffL p.n.reads := ff_mem.2 ⟨hle.1, hgs.1, hle.2⟩
    rw [hl] at hsm
    rcases List.mem_append.1 hsm with h1 | h1
    · rw [ha s h1] at hgs
      cases hgs.2
    · rcases List.mem_cons.1 h1 with h1 | h1
      · exact .inl h1
      · exact .inr ((List.pairwise_cons.1 (List.pairwise_append.1 hs).2.1).1 s h1)
  cases o with
  | none =>
    have := h y (by omega)
    rw [hg] at this
    cases this
  | some z =>
    have h1 := hmin z h.2.1
    have h2 := h.2.2 y (by omega) hg
    rcases h1 with rfl | h1
    · rfl
    · rcases h2 with rfl | h2
      · rfl
      · exact absurd (Before.tr h1 h2) Before.irr
/-- Are those of a set that come before i readings? -/
def rdP (w : Wn) (t i : Nat) : Bool := (List.range i).all fun k => !t.testBit k || (elE w.es k).1 == 1
theorem rdP_next (w : Wn) (t i : Nat) : rdP w t (i + 1) = (rdP w t i && (!t.testBit i || (elE w.es i).1 == 1)) := by
  unfold rdP
  rw [List.range_succ, List.all_append]
  simp
theorem rdP_all {w : Wn} {t : Nat} (ht : t < 2 ^ w.es.length) : rdP w t w.es.length = subB t w.reads := by
  unfold rdP subB Wn.reads
  rw [Bool.eq_iff_iff, List.all_eq_true, beq_iff_eq]
  constructor
  · intro h
    apply Nat.eq_of_testBit_eq
    intro i
    rw [Nat.testBit_and, bitsP_has]
    cases hb : t.testBit i with
    | false => rfl
    | true =>
      have hi : i < w.es.length := by
        by_cases hi : i < w.es.length
        · exact hi
        · rw [Nat.testBit_lt_two_pow (Nat.lt_of_lt_of_le ht (Nat.pow_le_pow_right (by omega) (by omega)))] at hb
          cases hb
      have := h i (List.mem_range.2 hi)
      rw [hb] at this
      simp [hi]
      simpa using this
  · intro h k hk
    have hk := List.mem_range.1 hk
    cases hb : t.testBit k with
    | false => rfl
    | true =>
      have h2 := congrArg (fun x => x.testBit k) h
      simp only [Nat.testBit_and, bitsP_has, hb, hk] at h2
      simpa using h2
set_option maxRecDepth 100000 in
theorem rClash_any (p : Wb) (w : World) (hp : p.In w) : Calls Tryz.prog 27 #[.agg #[.int .i64 p.ll, .int .i64 p.lh, .int .i64 p.ul, .int .i64 p.uh, .slice p.ea p.es.length p.ec]] w (Ret (.tuple #[.int .i64 (inA (clashR p)), .int .i64 (erA (clashR p))]) w) := by
  refine calls_run (fn := f27) (c := (f27.body).getD .skip) [.agg #[.int .i64 p.ll, .int .i64 p.lh, .int .i64 p.ul, .int .i64 p.uh, .slice p.ea p.es.length p.ec]] func27 (by kernel_rfl) (fun _ => False) [] (fun _ h => by cases h) (List.Pairwise.nil) 68 (by kernel_rfl) (by simp) ?_
  refine run_auto [] 2 [] [] [0] [] (st' := ⟨[(0, .agg #[iV p.ll, iV p.lh, iV p.ul, iV p.uh, .slice p.ea p.es.length p.ec])], []⟩) (acc := []) (by kernel_rfl) (by kernel_rfl) trivial ?_
  refine run_new (aO #[iV p.ll, iV p.lh, iV p.ul, iV p.uh, .slice p.ea p.es.length p.ec] 26) (fun b1 => pA b1) (some 1) (fun _ => by kernel_rfl) (fun b1 hb1 => ?_)
  refine run_auto [] 7 [] [0] [1, 2, 3, 8] [0] (st' := ⟨[(1, pA b1), (2, iV 0), (3, iV 0), (8, .agg #[iV p.ll, iV p.lh, iV p.ul, iV p.uh, .slice p.ea p.es.length p.ec])], [(b1, aO #[iV p.ll, iV p.lh, iV p.ul, iV p.uh, .slice p.ea p.es.length p.ec] 26)]⟩) (acc := [(pA b1, pA b1)]) (by kernel_rfl) (by kernel_rfl) ⟨rfl, trivial⟩ ?_
  cases hd1 : p.n.ok with
  | false =>
    refine run_ret1 33 #[.agg #[iV p.ll, iV p.lh, iV p.ul, iV p.uh, .slice p.ea p.es.length p.ec]] (some 9) (.bool false) (by kernel_rfl) (fun w1 k1 h1 => (by have h := rwear_any p w1 (hp.keep (k1.keeps (fun _ h => h))); rw [hd1] at h; exact h)) ?_
    refine run_auto [(10, .bool true)] 8 [true] [] [1, 2, 3] [0] (st' := ⟨[(1, pA b1), (2, iV 0), (3, iV 1)], [(b1, aO #[iV p.ll, iV p.lh, iV p.ul, iV p.uh, .slice p.ea p.es.length p.ec] 26)]⟩) (acc := [(.bool true, .bool true), (.bool true, .bool true)]) (by kernel_rfl) (by kernel_rfl) ⟨rfl, rfl, trivial⟩ ?_
    refine run_end (fn := f27) rfl (Nat.le_refl _) (by kernel_rfl) [] [iV 0, iV 1] (e := []) (by kernel_rfl) trivial (fun w1 k1 h1 => ?_)
    unfold clashR
    rw [hd1]
    exact ⟨rfl, k1.keeps (fun _ h => h)⟩
  | true =>
    have hF := Wn.fine hd1
    have hn8 : p.es.length ≤ 8 := hF.n8
    have hal := all_lt hF
    have hl0 : 0 ≤ p.ll ∧ p.ll ≤ p.lh ∧ p.lh ≤ 300 := hF.l
    refine run_ret1 33 #[.agg #[iV p.ll, iV p.lh, iV p.ul, iV p.uh, .slice p.ea p.es.length p.ec]] (some 9) (.bool true) (by kernel_rfl) (fun w1 k1 h1 => (by have h := rwear_any p w1 (hp.keep (k1.keeps (fun _ h => h))); rw [hd1] at h; exact h)) ?_
    refine run_auto [(10, .bool false)] 6 [false] [] [1, 2, 3] [0] (st' := ⟨[(1, pA b1), (2, iV 0), (3, iV 0)], [(b1, aO #[iV p.ll, iV p.lh, iV p.ul, iV p.uh, .slice p.ea p.es.length p.ec] 26)]⟩) (acc := [(.bool false, .bool false), (.bool false, .bool false)]) (by kernel_rfl) (by kernel_rfl) ⟨rfl, rfl, trivial⟩ ?_
    cases hd2 : p.n.can with
    | false =>
      refine drawW 6 [{ val := fun _ => .agg #[iV p.ll, iV p.lh, iV p.ul, iV p.uh, .slice p.ea p.es.length p.ec], slots := [1], reads := [0] },
              { val := fun _ => pA b1, slots := [1] },
              { val := fun _ => .agg #[iV p.ll, iV p.lh], slots := [12], reads := [0] },
              { val := fun _ => .agg #[iV p.ll, iV p.lh, iV p.ul, iV p.uh, .slice p.ea p.es.length p.ec], slots := [1], reads := [0] },
              { val := fun _ => iV (p.all : Int), slots := [14] },
              { val := fun _ => .bool false, slots := [11, 13, 15] }] [[], [], [1], [], [3], [0, 1, 2, 3, 4]] (by kernel_rfl) (by kernel_rfl) (by kernel_rfl) (by kernel_rfl) [1, 2, 3, 16] [0] (by kernel_rfl)
              ⟨⟨⟨⟨⟨⟨trivial,
              tri_quietW (fun β => []) [0] [0] (fun β => [(pA b1, pA b1)]) (by kernel_rfl) (fun β extra => by kernel_rfl) (by kernel_rfl) (fun β => ⟨rfl, trivial⟩)⟩,
              tri_quietW (fun β => []) [] [] (fun β => []) (by kernel_rfl) (fun β extra => by kernel_rfl) (by kernel_rfl) (fun β => trivial)⟩,
              tri_quietW (fun β => []) [0] [0] (fun β => [(pA b1, pA b1)]) (by kernel_rfl) (fun β extra => by kernel_rfl) (by kernel_rfl) (fun β => ⟨rfl, trivial⟩)⟩,
              tri_quietW (fun β => []) [0] [0] (fun β => [(pA b1, pA b1)]) (by kernel_rfl) (fun β extra => by kernel_rfl) (by kernel_rfl) (fun β => ⟨rfl, trivial⟩)⟩,
              tri_callVW (fun β => iV (p.all : Int)) (fun β => by kernel_rfl) 52 (fun β => #[.agg #[iV p.ll, iV p.lh, iV p.ul, iV p.uh, .slice p.ea p.es.length p.ec]]) (by kernel_rfl) (fun β extra => by kernel_rfl) (fun β => by kernel_rfl) (fun β w1 k1 h1 => every_any p w1 hn8)⟩,
              tri_callVW (fun β => .bool false) (fun β => by kernel_rfl) 86 (fun β => #[.agg #[iV p.ll, iV p.lh, iV p.ul, iV p.uh, .slice p.ea p.es.length p.ec], .agg #[iV p.ll, iV p.lh], iV (p.all : Int)]) (by kernel_rfl) (fun β extra => by kernel_rfl) (fun β => by kernel_rfl) (fun β w1 k1 h1 => (by have h := (by have h := can_any p (p.ll, p.lh) _ p.all w1 (hp.keep (k1.keeps (fun _ h => h))) hF (by omega) (by unfold bdS; dsimp only; omega) rfl; rw [can_rn hF] at h; exact h); rw [hd2] at h; exact h))⟩
              (fun β => ⟨[(1, pA b1), (2, iV 0), (3, iV 0), (16, .bool false)], [(b1, aO #[iV p.ll, iV p.lh, iV p.ul, iV p.uh, .slice p.ea p.es.length p.ec] 26)]⟩) (fun β => by kernel_rfl) (fun β2 => ?_)
      refine run_auto [] 12 [false] [] [1, 2, 3, 4, 5] [0] (st' := ⟨[(1, pA b1), (2, iV 0), (3, iV 0), (4, iV (-1)), (5, iV 0)], [(b1, aO #[iV p.ll, iV p.lh, iV p.ul, iV p.uh, .slice p.ea p.es.length p.ec] 26)]⟩) (acc := [(.bool false, .bool false)]) (by kernel_rfl) (by kernel_rfl) ⟨rfl, trivial⟩ ?_
      refine run_auto [] 0 [] [] [1, 2, 3, 4, 5] [0] (st' := ⟨[(1, pA b1), (2, iV 0), (3, iV 0), (4, iV (-1)), (5, iV 0)], [(b1, aO #[iV p.ll, iV p.lh, iV p.ul, iV p.uh, .slice p.ea p.es.length p.ec] 26)]⟩) (acc := []) (by kernel_rfl) (by kernel_rfl) trivial ?_
      refine run_loop (S := fun (v : Nat × Option Nat) => match v with | (t, none) => ⟨[(1, pA b1), (2, iV 0), (3, iV 0), (4, iV (-1)), (5, iV (t : Int))], [(b1, aO #[iV p.ll, iV p.lh, iV p.ul, iV p.uh, .slice p.ea p.es.length p.ec] 26)]⟩ | (t, some y) => ⟨[(1, pA b1), (2, iV 0), (3, iV 0), (4, iV (y : Int)), (5, iV (t : Int))], [(b1, aO #[iV p.ll, iV p.lh, iV p.ul, iV p.uh, .slice p.ea p.es.length p.ec] 26)]⟩) (fun v => v.1 ≤ p.all + 1 ∧ BestO p.n v.1 v.2) (fun v => p.all + 1 - v.1) ((0, none)) (by kernel_rfl) (⟨Nat.zero_le _, fun s h => absurd h (Nat.not_lt_zero _)⟩) (by kernel_rfl) (fun v hI0 J0 hJ0 => ?_)
      obtain ⟨t, _ | y⟩ := v
      · skip
        obtain ⟨hI1, hI2⟩ := hI0
        dsimp only at hI1 hI2
        refine run_auto [] 5 [] [0] [1, 2, 3, 4, 5, 17, 18] [0] (st' := ⟨[(1, pA b1), (2, iV 0), (3, iV 0), (4, iV (-1)), (5, iV (t : Int)), (17, iV (t : Int)), (18, .agg #[iV p.ll, iV p.lh, iV p.ul, iV p.uh, .slice p.ea p.es.length p.ec])], [(b1, aO #[iV p.ll, iV p.lh, iV p.ul, iV p.uh, .slice p.ea p.es.length p.ec] 26)]⟩) (acc := [(pA b1, pA b1)]) (by kernel_rfl) (by kernel_rfl) ⟨rfl, trivial⟩ ?_
        refine run_ret1 52 #[.agg #[iV p.ll, iV p.lh, iV p.ul, iV p.uh, .slice p.ea p.es.length p.ec]] (some 19) (iV (p.all : Int)) (by kernel_rfl) (fun w1 k1 h1 => every_any p w1 hn8) ?_
        cases hd3 : (decide ((t : Int) ≤ (p.all : Int))) with
        | false =>
          have hp3 := of_decide_eq_false hd3
          have hb := best_is hd2 (by rw [show t = p.all + 1 by omega] at hI2; exact hI2)
          have hcs := cl_some hd2
          rw [← hb] at hcs
          cases hcs
        | true =>
          have hp3 := of_decide_eq_true hd3
          refine run_auto [(20, .bool true)] 16 [true] [] [1, 2, 3, 4, 5, 6, 7] [0] (st' := ⟨[(1, pA b1), (2, iV 0), (3, iV 0), (4, iV (-1)), (5, iV (t : Int)), (6, .bool true), (7, iV 0)], [(b1, aO #[iV p.ll, iV p.lh, iV p.ul, iV p.uh, .slice p.ea p.es.length p.ec] 26)]⟩) (acc := [(.bool true, .bool true), (.bool (decide ((t : Int) ≤ (p.all : Int))), .bool true)]) (by kernel_rfl) (by kernel_rfl) ⟨rfl, (bo hd3), trivial⟩ ?_
          refine run_auto [] 0 [] [] [1, 2, 3, 4, 5, 6, 7] [0] (st' := ⟨[(1, pA b1), (2, iV 0), (3, iV 0), (4, iV (-1)), (5, iV (t : Int)), (6, .bool true), (7, iV 0)], [(b1, aO #[iV p.ll, iV p.lh, iV p.ul, iV p.uh, .slice p.ea p.es.length p.ec] 26)]⟩) (acc := []) (by kernel_rfl) (by kernel_rfl) trivial ?_
          refine run_loop (S := fun (i : Nat) => ⟨[(1, pA b1), (2, iV 0), (3, iV 0), (4, iV (-1)), (5, iV (t : Int)), (6, .bool (rdP p.n t i)), (7, iV (i : Int))], [(b1, aO #[iV p.ll, iV p.lh, iV p.ul, iV p.uh, .slice p.ea p.es.length p.ec] 26)]⟩) (fun i => i ≤ p.es.length) (fun i => p.es.length - i) (0) (by kernel_rfl) (Nat.zero_le _) (by kernel_rfl) (fun i hI1 J1 hJ1 => ?_)
          cases hd4 : (decide ((i : Int) < (p.es.length : Int))) with
          | false =>
            have hp4 := of_decide_eq_false hd4
            have hrd : rdP p.n t i = subB t p.n.reads := by rw [show i = p.n.es.length from (by omega : i = p.es.length)]; exact rdP_all (by show t < 2 ^ p.es.length; have h : p.all = 2 ^ p.es.length - 1 := rfl; have := Nat.two_pow_pos p.es.length; omega)
            cases hd5 : (rdP p.n t i) with
            | false =>
              refine run_auto [(27, .bool false), (22, iV ((t + 1 : Nat) : Int))] 42 [false, false] [0] [1, 2, 3, 4, 5] [0] (st' := ⟨[(1, pA b1), (2, iV 0), (3, iV 0), (4, iV (-1)), (5, iV ((t + 1 : Nat) : Int))], [(b1, aO #[iV p.ll, iV p.lh, iV p.ul, iV p.uh, .slice p.ea p.es.length p.ec] 26)]⟩) (acc := [(iV (IntKind.i64.wrap ((t : Int) + 1)), iV ((t + 1 : Nat) : Int)), (.bool false, .bool false), (.bool false, .bool false), (.bool (decide ((i : Int) < (p.es.length : Int))), .bool false), (pA b1, pA b1)]) (by kernel_rfl) (by kernel_rfl) ⟨(wr (by omega) (by omega)), rfl, rfl, (bo hd4), rfl, trivial⟩ ?_
              have hg : godB p.n t = false := by unfold godB Wn.clB; rw [← hrd, hd5]; rfl
              have hj := hJ0 (t + 1, none) ⟨by dsimp only; omega, best_not hI2 hg⟩ (by dsimp only; omega)
              exact run_round (by kernel_rfl) hj
            | true =>
              refine run_auto [(27, .bool false)] 19 [false] [0, 0, 0] [1, 2, 3, 4, 5, 47, 48, 50, 51] [0] (st' := ⟨[(1, pA b1), (2, iV 0), (3, iV 0), (4, iV (-1)), (5, iV (t : Int)), (47, .bool true), (48, .agg #[iV p.ll, iV p.lh, iV p.ul, iV p.uh, .slice p.ea p.es.length p.ec]), (50, .agg #[iV p.ll, iV p.lh]), (51, iV (t : Int))], [(b1, aO #[iV p.ll, iV p.lh, iV p.ul, iV p.uh, .slice p.ea p.es.length p.ec] 26)]⟩) (acc := [(pA b1, pA b1), (pA b1, pA b1), (.bool false, .bool false), (.bool (decide ((i : Int) < (p.es.length : Int))), .bool false), (pA b1, pA b1)]) (by kernel_rfl) (by kernel_rfl) ⟨rfl, rfl, rfl, (bo hd4), rfl, trivial⟩ ?_
              cases hd6 : ((p.n.look t).can) with
              | false =>
                refine run_ret1 86 #[.agg #[iV p.ll, iV p.lh, iV p.ul, iV p.uh, .slice p.ea p.es.length p.ec], .agg #[iV p.ll, iV p.lh], iV (t : Int)] (some 52) (.bool false) (by kernel_rfl) (fun w1 k1 h1 => (by have h := (by have h := can_any p (p.ll, p.lh) _ t w1 (hp.keep (k1.keeps (fun _ h => h))) hF (by omega) (by unfold bdS; dsimp only; omega) rfl; rw [can_look hF t] at h; exact h); rw [hd6] at h; exact h)) ?_
                refine run_auto [(53, .bool true), (57, .bool true), (22, iV ((t + 1 : Nat) : Int))] 25 [true] [] [1, 2, 3, 4, 5] [0] (st' := ⟨[(1, pA b1), (2, iV 0), (3, iV 0), (4, iV (t : Int)), (5, iV ((t + 1 : Nat) : Int))], [(b1, aO #[iV p.ll, iV p.lh, iV p.ul, iV p.uh, .slice p.ea p.es.length p.ec] 26)]⟩) (acc := [(iV (IntKind.i64.wrap ((t : Int) + 1)), iV ((t + 1 : Nat) : Int)), (.bool true, .bool true), (.bool true, .bool true), (.bool true, .bool true)]) (by kernel_rfl) (by kernel_rfl) ⟨(wr (by omega) (by omega)), rfl, rfl, rfl, trivial⟩ ?_
                have hg : godB p.n t = true := by unfold godB Wn.clB; rw [← hrd, hd5, hd6]; rfl
                have hj := hJ0 (t + 1, some t) ⟨by dsimp only; omega, best_first hI2 hg⟩ (by dsimp only; omega)
                exact run_round (by kernel_rfl) hj
              | true =>
                refine run_ret1 86 #[.agg #[iV p.ll, iV p.lh, iV p.ul, iV p.uh, .slice p.ea p.es.length p.ec], .agg #[iV p.ll, iV p.lh], iV (t : Int)] (some 52) (.bool true) (by kernel_rfl) (fun w1 k1 h1 => (by have h := (by have h := can_any p (p.ll, p.lh) _ t w1 (hp.keep (k1.keeps (fun _ h => h))) hF (by omega) (by unfold bdS; dsimp only; omega) rfl; rw [can_look hF t] at h; exact h); rw [hd6] at h; exact h)) ?_
                refine run_auto [(53, .bool false), (22, iV ((t + 1 : Nat) : Int))] 22 [false] [] [1, 2, 3, 4, 5] [0] (st' := ⟨[(1, pA b1), (2, iV 0), (3, iV 0), (4, iV (-1)), (5, iV ((t + 1 : Nat) : Int))], [(b1, aO #[iV p.ll, iV p.lh, iV p.ul, iV p.uh, .slice p.ea p.es.length p.ec] 26)]⟩) (acc := [(iV (IntKind.i64.wrap ((t : Int) + 1)), iV ((t + 1 : Nat) : Int)), (.bool false, .bool false), (.bool false, .bool false)]) (by kernel_rfl) (by kernel_rfl) ⟨(wr (by omega) (by omega)), rfl, rfl, trivial⟩ ?_
                have hg : godB p.n t = false := by unfold godB Wn.clB; rw [← hrd, hd5, hd6]; rfl
                have hj := hJ0 (t + 1, none) ⟨by dsimp only; omega, best_not hI2 hg⟩ (by dsimp only; omega)
                exact run_round (by kernel_rfl) hj
          | true =>
            have hp4 := of_decide_eq_true hd4
            have hlt : i < p.es.length := by omega
            obtain ⟨be, oe, hbe, hc⟩ := hp.ev (by intro h; rw [h] at hlt; cases hlt)
            have hc := hc i hlt
            cases hd5 : (rdP p.n t i) with
            | false =>
              refine run_auto [(27, .bool true), (29, iV ((i + 1 : Nat) : Int))] 38 [true] [0] [1, 2, 3, 4, 5, 6, 7] [0] (st' := ⟨[(1, pA b1), (2, iV 0), (3, iV 0), (4, iV (-1)), (5, iV (t : Int)), (6, .bool false), (7, iV ((i + 1 : Nat) : Int))], [(b1, aO #[iV p.ll, iV p.lh, iV p.ul, iV p.uh, .slice p.ea p.es.length p.ec] 26)]⟩) (acc := [(iV (IntKind.i64.wrap ((i : Int) + 1)), iV ((i + 1 : Nat) : Int)), (.bool true, .bool true), (.bool (decide ((i : Int) < (p.es.length : Int))), .bool true), (pA b1, pA b1)]) (by kernel_rfl) (by kernel_rfl) ⟨(wr (by omega) (by omega)), rfl, (bo hd4), rfl, trivial⟩ ?_
              have hj := hJ1 (i + 1) (by omega) (by omega)
              rw [rdP_next, hd5] at hj
              exact run_round (by kernel_rfl) hj
            | true =>
              refine run_auto [(27, .bool true)] 18 [true] [0] [1, 2, 3, 4, 5, 6, 7, 31, 32, 33] [0] (st' := ⟨[(1, pA b1), (2, iV 0), (3, iV 0), (4, iV (-1)), (5, iV (t : Int)), (6, .bool true), (7, iV (i : Int)), (31, .bool true), (32, iV (t : Int)), (33, iV (i : Int))], [(b1, aO #[iV p.ll, iV p.lh, iV p.ul, iV p.uh, .slice p.ea p.es.length p.ec] 26)]⟩) (acc := [(.bool true, .bool true), (.bool (decide ((i : Int) < (p.es.length : Int))), .bool true), (pA b1, pA b1)]) (by kernel_rfl) (by kernel_rfl) ⟨rfl, (bo hd4), rfl, trivial⟩ ?_
              cases hd6 : (t.testBit i) with
              | false =>
                refine run_ret1 87 #[iV (t : Int), iV (i : Int)] (some 34) (.bool false) (by kernel_rfl) (fun w1 k1 h1 => (by have h := rhas_any t i (by omega) (by omega) w1; rw [hd6] at h; exact h)) ?_
                refine run_auto [(35, .bool true), (29, iV ((i + 1 : Nat) : Int))] 19 [] [] [1, 2, 3, 4, 5, 6, 7] [0] (st' := ⟨[(1, pA b1), (2, iV 0), (3, iV 0), (4, iV (-1)), (5, iV (t : Int)), (6, .bool true), (7, iV ((i + 1 : Nat) : Int))], [(b1, aO #[iV p.ll, iV p.lh, iV p.ul, iV p.uh, .slice p.ea p.es.length p.ec] 26)]⟩) (acc := [(iV (IntKind.i64.wrap ((i : Int) + 1)), iV ((i + 1 : Nat) : Int)), (.bool true, .bool true)]) (by kernel_rfl) (by kernel_rfl) ⟨(wr (by omega) (by omega)), rfl, trivial⟩ ?_
                have hj := hJ1 (i + 1) (by omega) (by omega)
                rw [rdP_next, hd5, hd6] at hj
                exact run_round (by kernel_rfl) hj
              | true =>
                refine run_ret1 87 #[iV (t : Int), iV (i : Int)] (some 34) (.bool true) (by kernel_rfl) (fun w1 k1 h1 => (by have h := rhas_any t i (by omega) (by omega) w1; rw [hd6] at h; exact h)) ?_
                refine run_auto [(35, .bool false)] 5 [] [0] [1, 2, 3, 4, 5, 6, 7, 31, 36, 38, 39] [0] (st' := ⟨[(1, pA b1), (2, iV 0), (3, iV 0), (4, iV (-1)), (5, iV (t : Int)), (6, .bool true), (7, iV (i : Int)), (31, .bool true), (36, .bool false), (38, .slice p.ea p.es.length p.ec), (39, iV (i : Int))], [(b1, aO #[iV p.ll, iV p.lh, iV p.ul, iV p.uh, .slice p.ea p.es.length p.ec] 26)]⟩) (acc := [(pA b1, pA b1), (.bool false, .bool false)]) (by kernel_rfl) (by kernel_rfl) ⟨rfl, rfl, trivial⟩ ?_
                refine run_v (Instr.indexAt 24 (.slice p.ea p.es.length p.ec) (iV (i : Int)) >>= fun v => pure (Next.value v)) (some 40) (.pointer (some ⟨be, oe + i * 4, none⟩)) (by kernel_rfl) (fun w1 k1 h1 => (by rw [hbe]; exact idx_off (e := 55) (n := 4) (by kernel_rfl) (by kernel_rfl) be oe p.es.length p.ec .i64 i hlt (oe + i * 4) (by omega) w1)) ?_
                refine run_auto [] 1 [] [] [1, 2, 3, 4, 5, 6, 7, 31, 36, 41] [0] (st' := ⟨[(1, pA b1), (2, iV 0), (3, iV 0), (4, iV (-1)), (5, iV (t : Int)), (6, .bool true), (7, iV (i : Int)), (31, .bool true), (36, .bool false), (41, .pointer (some ⟨be, oe + i * 4, none⟩))], [(b1, aO #[iV p.ll, iV p.lh, iV p.ul, iV p.uh, .slice p.ea p.es.length p.ec] 26)]⟩) (acc := []) (by kernel_rfl) (by kernel_rfl) trivial ?_
                refine run_v (Instr.loadAt 3 (.pointer (some ⟨be, oe + i * 4, none⟩)) >>= fun v => pure (Next.value v)) (some 42) (iV (elE p.es i).1) (by kernel_rfl) (fun w1 k1 h1 => load_in (off := 0) k1 (fun h => h) [iV (elE p.es i).1, iV (elE p.es i).2.1, iV (elE p.es i).2.2.1, iV (elE p.es i).2.2.2] (c4 hc.1 hc.2.1 hc.2.2.1 hc.2.2.2) (by kernel_rfl)) ?_
                cases hd7 : ((elE p.es i).1 == 1) with
                | false =>
                  have hp7 : ¬ (elE p.es i).1 = 1 := by simpa using hd7
                  refine run_auto [(43, .bool false), (29, iV ((i + 1 : Nat) : Int))] 11 [] [] [1, 2, 3, 4, 5, 6, 7] [0] (st' := ⟨[(1, pA b1), (2, iV 0), (3, iV 0), (4, iV (-1)), (5, iV (t : Int)), (6, .bool false), (7, iV ((i + 1 : Nat) : Int))], [(b1, aO #[iV p.ll, iV p.lh, iV p.ul, iV p.uh, .slice p.ea p.es.length p.ec] 26)]⟩) (acc := [(iV (IntKind.i64.wrap ((i : Int) + 1)), iV ((i + 1 : Nat) : Int)), (.bool ((elE p.es i).1 == 1), .bool false)]) (by kernel_rfl) (by kernel_rfl) ⟨(wr (by omega) (by omega)), (bo hd7), trivial⟩ ?_
                  have hj := hJ1 (i + 1) (by omega) (by omega)
                  rw [rdP_next, hd5, hd6, show ((elE p.n.es i).1 == 1) = false from hd7] at hj
                  exact run_round (by kernel_rfl) hj
                | true =>
                  have hp7 : (elE p.es i).1 = 1 := by simpa using hd7
                  refine run_auto [(43, .bool true), (29, iV ((i + 1 : Nat) : Int))] 11 [] [] [1, 2, 3, 4, 5, 6, 7] [0] (st' := ⟨[(1, pA b1), (2, iV 0), (3, iV 0), (4, iV (-1)), (5, iV (t : Int)), (6, .bool true), (7, iV ((i + 1 : Nat) : Int))], [(b1, aO #[iV p.ll, iV p.lh, iV p.ul, iV p.uh, .slice p.ea p.es.length p.ec] 26)]⟩) (acc := [(iV (IntKind.i64.wrap ((i : Int) + 1)), iV ((i + 1 : Nat) : Int)), (.bool ((elE p.es i).1 == 1), .bool true)]) (by kernel_rfl) (by kernel_rfl) ⟨(wr (by omega) (by omega)), (bo hd7), trivial⟩ ?_
                  have hj := hJ1 (i + 1) (by omega) (by omega)
                  rw [rdP_next, hd5, hd6, show ((elE p.n.es i).1 == 1) = true from hd7] at hj
                  exact run_round (by kernel_rfl) hj
      · skip
        obtain ⟨hI1, hI2⟩ := hI0
        dsimp only at hI1 hI2
        have hy1 := hI2.1
        refine run_auto [] 5 [] [0] [1, 2, 3, 4, 5, 17, 18] [0] (st' := ⟨[(1, pA b1), (2, iV 0), (3, iV 0), (4, iV (y : Int)), (5, iV (t : Int)), (17, iV (t : Int)), (18, .agg #[iV p.ll, iV p.lh, iV p.ul, iV p.uh, .slice p.ea p.es.length p.ec])], [(b1, aO #[iV p.ll, iV p.lh, iV p.ul, iV p.uh, .slice p.ea p.es.length p.ec] 26)]⟩) (acc := [(pA b1, pA b1)]) (by kernel_rfl) (by kernel_rfl) ⟨rfl, trivial⟩ ?_
        refine run_ret1 52 #[.agg #[iV p.ll, iV p.lh, iV p.ul, iV p.uh, .slice p.ea p.es.length p.ec]] (some 19) (iV (p.all : Int)) (by kernel_rfl) (fun w1 k1 h1 => every_any p w1 hn8) ?_
        cases hd3 : (decide ((t : Int) ≤ (p.all : Int))) with
        | false =>
          have hp3 := of_decide_eq_false hd3
          have hb := best_is hd2 (by rw [show t = p.all + 1 by omega] at hI2; exact hI2)
          refine run_auto [(20, .bool false)] 10 [false] [] [2, 3] [] (st' := ⟨[(2, iV (y : Int)), (3, iV 0)], []⟩) (acc := [(.bool false, .bool false), (.bool (decide ((t : Int) ≤ (p.all : Int))), .bool false)]) (by kernel_rfl) (by kernel_rfl) ⟨rfl, (bo hd3), trivial⟩ ?_
          refine run_end (fn := f27) rfl (Nat.le_refl _) (by kernel_rfl) [] [iV (y : Int), iV 0] (e := []) (by kernel_rfl) trivial (fun w1 k1 h1 => ?_)
          unfold clashR
          rw [hd1, hd2]
          rw [← hb]
          exact ⟨rfl, k1.keeps (fun _ h => h)⟩
        | true =>
          have hp3 := of_decide_eq_true hd3
          refine run_auto [(20, .bool true)] 16 [true] [] [1, 2, 3, 4, 5, 6, 7] [0] (st' := ⟨[(1, pA b1), (2, iV 0), (3, iV 0), (4, iV (y : Int)), (5, iV (t : Int)), (6, .bool true), (7, iV 0)], [(b1, aO #[iV p.ll, iV p.lh, iV p.ul, iV p.uh, .slice p.ea p.es.length p.ec] 26)]⟩) (acc := [(.bool true, .bool true), (.bool (decide ((t : Int) ≤ (p.all : Int))), .bool true)]) (by kernel_rfl) (by kernel_rfl) ⟨rfl, (bo hd3), trivial⟩ ?_
          refine run_auto [] 0 [] [] [1, 2, 3, 4, 5, 6, 7] [0] (st' := ⟨[(1, pA b1), (2, iV 0), (3, iV 0), (4, iV (y : Int)), (5, iV (t : Int)), (6, .bool true), (7, iV 0)], [(b1, aO #[iV p.ll, iV p.lh, iV p.ul, iV p.uh, .slice p.ea p.es.length p.ec] 26)]⟩) (acc := []) (by kernel_rfl) (by kernel_rfl) trivial ?_
          refine run_loop (S := fun (i : Nat) => ⟨[(1, pA b1), (2, iV 0), (3, iV 0), (4, iV (y : Int)), (5, iV (t : Int)), (6, .bool (rdP p.n t i)), (7, iV (i : Int))], [(b1, aO #[iV p.ll, iV p.lh, iV p.ul, iV p.uh, .slice p.ea p.es.length p.ec] 26)]⟩) (fun i => i ≤ p.es.length) (fun i => p.es.length - i) (0) (by kernel_rfl) (Nat.zero_le _) (by kernel_rfl) (fun i hI1 J1 hJ1 => ?_)
          cases hd4 : (decide ((i : Int) < (p.es.length : Int))) with
          | false =>
            have hp4 := of_decide_eq_false hd4
            have hrd : rdP p.n t i = subB t p.n.reads := by rw [show i = p.n.es.length from (by omega : i = p.es.length)]; exact rdP_all (by show t < 2 ^ p.es.length; have h : p.all = 2 ^ p.es.length - 1 := rfl; have := Nat.two_pow_pos p.es.length; omega)
            cases hd5 : (rdP p.n t i) with
            | false =>
              refine run_auto [(27, .bool false), (22, iV ((t + 1 : Nat) : Int))] 42 [false, false] [0] [1, 2, 3, 4, 5] [0] (st' := ⟨[(1, pA b1), (2, iV 0), (3, iV 0), (4, iV (y : Int)), (5, iV ((t + 1 : Nat) : Int))], [(b1, aO #[iV p.ll, iV p.lh, iV p.ul, iV p.uh, .slice p.ea p.es.length p.ec] 26)]⟩) (acc := [(iV (IntKind.i64.wrap ((t : Int) + 1)), iV ((t + 1 : Nat) : Int)), (.bool false, .bool false), (.bool false, .bool false), (.bool (decide ((i : Int) < (p.es.length : Int))), .bool false), (pA b1, pA b1)]) (by kernel_rfl) (by kernel_rfl) ⟨(wr (by omega) (by omega)), rfl, rfl, (bo hd4), rfl, trivial⟩ ?_
              have hg : godB p.n t = false := by unfold godB Wn.clB; rw [← hrd, hd5]; rfl
              have hj := hJ0 (t + 1, some y) ⟨by dsimp only; omega, best_not hI2 hg⟩ (by dsimp only; omega)
              exact run_round (by kernel_rfl) hj
            | true =>
              refine run_auto [(27, .bool false)] 19 [false] [0, 0, 0] [1, 2, 3, 4, 5, 47, 48, 50, 51] [0] (st' := ⟨[(1, pA b1), (2, iV 0), (3, iV 0), (4, iV (y : Int)), (5, iV (t : Int)), (47, .bool true), (48, .agg #[iV p.ll, iV p.lh, iV p.ul, iV p.uh, .slice p.ea p.es.length p.ec]), (50, .agg #[iV p.ll, iV p.lh]), (51, iV (t : Int))], [(b1, aO #[iV p.ll, iV p.lh, iV p.ul, iV p.uh, .slice p.ea p.es.length p.ec] 26)]⟩) (acc := [(pA b1, pA b1), (pA b1, pA b1), (.bool false, .bool false), (.bool (decide ((i : Int) < (p.es.length : Int))), .bool false), (pA b1, pA b1)]) (by kernel_rfl) (by kernel_rfl) ⟨rfl, rfl, rfl, (bo hd4), rfl, trivial⟩ ?_
              cases hd6 : ((p.n.look t).can) with
              | false =>
                refine run_ret1 86 #[.agg #[iV p.ll, iV p.lh, iV p.ul, iV p.uh, .slice p.ea p.es.length p.ec], .agg #[iV p.ll, iV p.lh], iV (t : Int)] (some 52) (.bool false) (by kernel_rfl) (fun w1 k1 h1 => (by have h := (by have h := can_any p (p.ll, p.lh) _ t w1 (hp.keep (k1.keeps (fun _ h => h))) hF (by omega) (by unfold bdS; dsimp only; omega) rfl; rw [can_look hF t] at h; exact h); rw [hd6] at h; exact h)) ?_
                cases hd7 : (decide ((y : Int) < 0)) with
                | false =>
                  have hp7 := of_decide_eq_false hd7
                  refine run_auto [(53, .bool true), (57, .bool false)] 7 [] [] [1, 2, 3, 4, 5, 55, 58, 59] [0] (st' := ⟨[(1, pA b1), (2, iV 0), (3, iV 0), (4, iV (y : Int)), (5, iV (t : Int)), (55, .bool true), (58, .bool false), (59, iV (t : Int))], [(b1, aO #[iV p.ll, iV p.lh, iV p.ul, iV p.uh, .slice p.ea p.es.length p.ec] 26)]⟩) (acc := [(.bool (decide ((y : Int) < 0)), .bool false), (.bool true, .bool true)]) (by kernel_rfl) (by kernel_rfl) ⟨(bo hd7), rfl, trivial⟩ ?_
                  refine run_ret1 37 #[iV (t : Int)] (some 60) (iV ((bitsN t : Nat) : Int)) (by kernel_rfl) (fun w1 k1 h1 => rsize_any t (by omega) w1) ?_
                  refine run_auto [] 1 [] [] [1, 2, 3, 4, 5, 55, 58, 60, 61] [0] (st' := ⟨[(1, pA b1), (2, iV 0), (3, iV 0), (4, iV (y : Int)), (5, iV (t : Int)), (55, .bool true), (58, .bool false), (60, iV ((bitsN t : Nat) : Int)), (61, iV (y : Int))], [(b1, aO #[iV p.ll, iV p.lh, iV p.ul, iV p.uh, .slice p.ea p.es.length p.ec] 26)]⟩) (acc := []) (by kernel_rfl) (by kernel_rfl) trivial ?_
                  refine run_ret1 37 #[iV (y : Int)] (some 62) (iV ((bitsN y : Nat) : Int)) (by kernel_rfl) (fun w1 k1 h1 => rsize_any y (by omega) w1) ?_
                  cases hd8 : (decide (((bitsN t : Nat) : Int) < ((bitsN y : Nat) : Int))) with
                  | false =>
                    have hp8 := of_decide_eq_false hd8
                    refine run_auto [(63, .bool false), (22, iV ((t + 1 : Nat) : Int))] 12 [false] [] [1, 2, 3, 4, 5] [0] (st' := ⟨[(1, pA b1), (2, iV 0), (3, iV 0), (4, iV (y : Int)), (5, iV ((t + 1 : Nat) : Int))], [(b1, aO #[iV p.ll, iV p.lh, iV p.ul, iV p.uh, .slice p.ea p.es.length p.ec] 26)]⟩) (acc := [(iV (IntKind.i64.wrap ((t : Int) + 1)), iV ((t + 1 : Nat) : Int)), (.bool false, .bool false), (.bool (decide (((bitsN t : Nat) : Int) < ((bitsN y : Nat) : Int))), .bool false)]) (by kernel_rfl) (by kernel_rfl) ⟨(wr (by omega) (by omega)), rfl, (bo hd8), trivial⟩ ?_
                    have hg : godB p.n t = true := by unfold godB Wn.clB; rw [← hrd, hd5, hd6]; rfl
                    have hj := hJ0 (t + 1, some y) ⟨by dsimp only; omega, best_more hI2 (by omega)⟩ (by dsimp only; omega)
                    exact run_round (by kernel_rfl) hj
                  | true =>
                    have hp8 := of_decide_eq_true hd8
                    refine run_auto [(63, .bool true), (22, iV ((t + 1 : Nat) : Int))] 15 [true] [] [1, 2, 3, 4, 5] [0] (st' := ⟨[(1, pA b1), (2, iV 0), (3, iV 0), (4, iV (t : Int)), (5, iV ((t + 1 : Nat) : Int))], [(b1, aO #[iV p.ll, iV p.lh, iV p.ul, iV p.uh, .slice p.ea p.es.length p.ec] 26)]⟩) (acc := [(iV (IntKind.i64.wrap ((t : Int) + 1)), iV ((t + 1 : Nat) : Int)), (.bool true, .bool true), (.bool (decide (((bitsN t : Nat) : Int) < ((bitsN y : Nat) : Int))), .bool true)]) (by kernel_rfl) (by kernel_rfl) ⟨(wr (by omega) (by omega)), rfl, (bo hd8), trivial⟩ ?_
                    have hg : godB p.n t = true := by unfold godB Wn.clB; rw [← hrd, hd5, hd6]; rfl
                    have hj := hJ0 (t + 1, some t) ⟨by dsimp only; omega, best_less hI2 hg (by omega)⟩ (by dsimp only; omega)
                    exact run_round (by kernel_rfl) hj
                | true =>
                  have hp7 := of_decide_eq_true hd7
                  exfalso
                  omega
              | true =>
                refine run_ret1 86 #[.agg #[iV p.ll, iV p.lh, iV p.ul, iV p.uh, .slice p.ea p.es.length p.ec], .agg #[iV p.ll, iV p.lh], iV (t : Int)] (some 52) (.bool true) (by kernel_rfl) (fun w1 k1 h1 => (by have h := (by have h := can_any p (p.ll, p.lh) _ t w1 (hp.keep (k1.keeps (fun _ h => h))) hF (by omega) (by unfold bdS; dsimp only; omega) rfl; rw [can_look hF t] at h; exact h); rw [hd6] at h; exact h)) ?_
                refine run_auto [(53, .bool false), (22, iV ((t + 1 : Nat) : Int))] 22 [false] [] [1, 2, 3, 4, 5] [0] (st' := ⟨[(1, pA b1), (2, iV 0), (3, iV 0), (4, iV (y : Int)), (5, iV ((t + 1 : Nat) : Int))], [(b1, aO #[iV p.ll, iV p.lh, iV p.ul, iV p.uh, .slice p.ea p.es.length p.ec] 26)]⟩) (acc := [(iV (IntKind.i64.wrap ((t : Int) + 1)), iV ((t + 1 : Nat) : Int)), (.bool false, .bool false), (.bool false, .bool false)]) (by kernel_rfl) (by kernel_rfl) ⟨(wr (by omega) (by omega)), rfl, rfl, trivial⟩ ?_
                have hg : godB p.n t = false := by unfold godB Wn.clB; rw [← hrd, hd5, hd6]; rfl
                have hj := hJ0 (t + 1, some y) ⟨by dsimp only; omega, best_not hI2 hg⟩ (by dsimp only; omega)
                exact run_round (by kernel_rfl) hj
          | true =>
            have hp4 := of_decide_eq_true hd4
            have hlt : i < p.es.length := by omega
            obtain ⟨be, oe, hbe, hc⟩ := hp.ev (by intro h; rw [h] at hlt; cases hlt)
            have hc := hc i hlt
            cases hd5 : (rdP p.n t i) with
            | false =>
              refine run_auto [(27, .bool true), (29, iV ((i + 1 : Nat) : Int))] 38 [true] [0] [1, 2, 3, 4, 5, 6, 7] [0] (st' := ⟨[(1, pA b1), (2, iV 0), (3, iV 0), (4, iV (y : Int)), (5, iV (t : Int)), (6, .bool false), (7, iV ((i + 1 : Nat) : Int))], [(b1, aO #[iV p.ll, iV p.lh, iV p.ul, iV p.uh, .slice p.ea p.es.length p.ec] 26)]⟩) (acc := [(iV (IntKind.i64.wrap ((i : Int) + 1)), iV ((i + 1 : Nat) : Int)), (.bool true, .bool true), (.bool (decide ((i : Int) < (p.es.length : Int))), .bool true), (pA b1, pA b1)]) (by kernel_rfl) (by kernel_rfl) ⟨(wr (by omega) (by omega)), rfl, (bo hd4), rfl, trivial⟩ ?_
              have hj := hJ1 (i + 1) (by omega) (by omega)
              rw [rdP_next, hd5] at hj
              exact run_round (by kernel_rfl) hj
            | true =>
              refine run_auto [(27, .bool true)] 18 [true] [0] [1, 2, 3, 4, 5, 6, 7, 31, 32, 33] [0] (st' := ⟨[(1, pA b1), (2, iV 0), (3, iV 0), (4, iV (y : Int)), (5, iV (t : Int)), (6, .bool true), (7, iV (i : Int)), (31, .bool true), (32, iV (t : Int)), (33, iV (i : Int))], [(b1, aO #[iV p.ll, iV p.lh, iV p.ul, iV p.uh, .slice p.ea p.es.length p.ec] 26)]⟩) (acc := [(.bool true, .bool true), (.bool (decide ((i : Int) < (p.es.length : Int))), .bool true), (pA b1, pA b1)]) (by kernel_rfl) (by kernel_rfl) ⟨rfl, (bo hd4), rfl, trivial⟩ ?_
              cases hd6 : (t.testBit i) with
              | false =>
                refine run_ret1 87 #[iV (t : Int), iV (i : Int)] (some 34) (.bool false) (by kernel_rfl) (fun w1 k1 h1 => (by have h := rhas_any t i (by omega) (by omega) w1; rw [hd6] at h; exact h)) ?_
                refine run_auto [(35, .bool true), (29, iV ((i + 1 : Nat) : Int))] 19 [] [] [1, 2, 3, 4, 5, 6, 7] [0] (st' := ⟨[(1, pA b1), (2, iV 0), (3, iV 0), (4, iV (y : Int)), (5, iV (t : Int)), (6, .bool true), (7, iV ((i + 1 : Nat) : Int))], [(b1, aO #[iV p.ll, iV p.lh, iV p.ul, iV p.uh, .slice p.ea p.es.length p.ec] 26)]⟩) (acc := [(iV (IntKind.i64.wrap ((i : Int) + 1)), iV ((i + 1 : Nat) : Int)), (.bool true, .bool true)]) (by kernel_rfl) (by kernel_rfl) ⟨(wr (by omega) (by omega)), rfl, trivial⟩ ?_
                have hj := hJ1 (i + 1) (by omega) (by omega)
                rw [rdP_next, hd5, hd6] at hj
                exact run_round (by kernel_rfl) hj
              | true =>
                refine run_ret1 87 #[iV (t : Int), iV (i : Int)] (some 34) (.bool true) (by kernel_rfl) (fun w1 k1 h1 => (by have h := rhas_any t i (by omega) (by omega) w1; rw [hd6] at h; exact h)) ?_
                refine run_auto [(35, .bool false)] 5 [] [0] [1, 2, 3, 4, 5, 6, 7, 31, 36, 38, 39] [0] (st' := ⟨[(1, pA b1), (2, iV 0), (3, iV 0), (4, iV (y : Int)), (5, iV (t : Int)), (6, .bool true), (7, iV (i : Int)), (31, .bool true), (36, .bool false), (38, .slice p.ea p.es.length p.ec), (39, iV (i : Int))], [(b1, aO #[iV p.ll, iV p.lh, iV p.ul, iV p.uh, .slice p.ea p.es.length p.ec] 26)]⟩) (acc := [(pA b1, pA b1), (.bool false, .bool false)]) (by kernel_rfl) (by kernel_rfl) ⟨rfl, rfl, trivial⟩ ?_
                refine run_v (Instr.indexAt 24 (.slice p.ea p.es.length p.ec) (iV (i : Int)) >>= fun v => pure (Next.value v)) (some 40) (.pointer (some ⟨be, oe + i * 4, none⟩)) (by kernel_rfl) (fun w1 k1 h1 => (by rw [hbe]; exact idx_off (e := 55) (n := 4) (by kernel_rfl) (by kernel_rfl) be oe p.es.length p.ec .i64 i hlt (oe + i * 4) (by omega) w1)) ?_
                refine run_auto [] 1 [] [] [1, 2, 3, 4, 5, 6, 7, 31, 36, 41] [0] (st' := ⟨[(1, pA b1), (2, iV 0), (3, iV 0), (4, iV (y : Int)), (5, iV (t : Int)), (6, .bool true), (7, iV (i : Int)), (31, .bool true), (36, .bool false), (41, .pointer (some ⟨be, oe + i * 4, none⟩))], [(b1, aO #[iV p.ll, iV p.lh, iV p.ul, iV p.uh, .slice p.ea p.es.length p.ec] 26)]⟩) (acc := []) (by kernel_rfl) (by kernel_rfl) trivial ?_
                refine run_v (Instr.loadAt 3 (.pointer (some ⟨be, oe + i * 4, none⟩)) >>= fun v => pure (Next.value v)) (some 42) (iV (elE p.es i).1) (by kernel_rfl) (fun w1 k1 h1 => load_in (off := 0) k1 (fun h => h) [iV (elE p.es i).1, iV (elE p.es i).2.1, iV (elE p.es i).2.2.1, iV (elE p.es i).2.2.2] (c4 hc.1 hc.2.1 hc.2.2.1 hc.2.2.2) (by kernel_rfl)) ?_
                cases hd7 : ((elE p.es i).1 == 1) with
                | false =>
                  have hp7 : ¬ (elE p.es i).1 = 1 := by simpa using hd7
                  refine run_auto [(43, .bool false), (29, iV ((i + 1 : Nat) : Int))] 11 [] [] [1, 2, 3, 4, 5, 6, 7] [0] (st' := ⟨[(1, pA b1), (2, iV 0), (3, iV 0), (4, iV (y : Int)), (5, iV (t : Int)), (6, .bool false), (7, iV ((i + 1 : Nat) : Int))], [(b1, aO #[iV p.ll, iV p.lh, iV p.ul, iV p.uh, .slice p.ea p.es.length p.ec] 26)]⟩) (acc := [(iV (IntKind.i64.wrap ((i : Int) + 1)), iV ((i + 1 : Nat) : Int)), (.bool ((elE p.es i).1 == 1), .bool false)]) (by kernel_rfl) (by kernel_rfl) ⟨(wr (by omega) (by omega)), (bo hd7), trivial⟩ ?_
                  have hj := hJ1 (i + 1) (by omega) (by omega)
                  rw [rdP_next, hd5, hd6, show ((elE p.n.es i).1 == 1) = false from hd7] at hj
                  exact run_round (by kernel_rfl) hj
                | true =>
                  have hp7 : (elE p.es i).1 = 1 := by simpa using hd7
                  refine run_auto [(43, .bool true), (29, iV ((i + 1 : Nat) : Int))] 11 [] [] [1, 2, 3, 4, 5, 6, 7] [0] (st' := ⟨[(1, pA b1), (2, iV 0), (3, iV 0), (4, iV (y : Int)), (5, iV (t : Int)), (6, .bool true), (7, iV ((i + 1 : Nat) : Int))], [(b1, aO #[iV p.ll, iV p.lh, iV p.ul, iV p.uh, .slice p.ea p.es.length p.ec] 26)]⟩) (acc := [(iV (IntKind.i64.wrap ((i : Int) + 1)), iV ((i + 1 : Nat) : Int)), (.bool ((elE p.es i).1 == 1), .bool true)]) (by kernel_rfl) (by kernel_rfl) ⟨(wr (by omega) (by omega)), (bo hd7), trivial⟩ ?_
                  have hj := hJ1 (i + 1) (by omega) (by omega)
                  rw [rdP_next, hd5, hd6, show ((elE p.n.es i).1 == 1) = true from hd7] at hj
                  exact run_round (by kernel_rfl) hj
    | true =>
      refine drawW 6 [{ val := fun _ => .agg #[iV p.ll, iV p.lh, iV p.ul, iV p.uh, .slice p.ea p.es.length p.ec], slots := [1], reads := [0] },
              { val := fun _ => pA b1, slots := [1] },
              { val := fun _ => .agg #[iV p.ll, iV p.lh], slots := [12], reads := [0] },
              { val := fun _ => .agg #[iV p.ll, iV p.lh, iV p.ul, iV p.uh, .slice p.ea p.es.length p.ec], slots := [1], reads := [0] },
              { val := fun _ => iV (p.all : Int), slots := [14] },
              { val := fun _ => .bool true, slots := [11, 13, 15] }] [[], [], [1], [], [3], [0, 1, 2, 3, 4]] (by kernel_rfl) (by kernel_rfl) (by kernel_rfl) (by kernel_rfl) [1, 2, 3, 16] [0] (by kernel_rfl)
              ⟨⟨⟨⟨⟨⟨trivial,
              tri_quietW (fun β => []) [0] [0] (fun β => [(pA b1, pA b1)]) (by kernel_rfl) (fun β extra => by kernel_rfl) (by kernel_rfl) (fun β => ⟨rfl, trivial⟩)⟩,
              tri_quietW (fun β => []) [] [] (fun β => []) (by kernel_rfl) (fun β extra => by kernel_rfl) (by kernel_rfl) (fun β => trivial)⟩,
              tri_quietW (fun β => []) [0] [0] (fun β => [(pA b1, pA b1)]) (by kernel_rfl) (fun β extra => by kernel_rfl) (by kernel_rfl) (fun β => ⟨rfl, trivial⟩)⟩,
              tri_quietW (fun β => []) [0] [0] (fun β => [(pA b1, pA b1)]) (by kernel_rfl) (fun β extra => by kernel_rfl) (by kernel_rfl) (fun β => ⟨rfl, trivial⟩)⟩,
              tri_callVW (fun β => iV (p.all : Int)) (fun β => by kernel_rfl) 52 (fun β => #[.agg #[iV p.ll, iV p.lh, iV p.ul, iV p.uh, .slice p.ea p.es.length p.ec]]) (by kernel_rfl) (fun β extra => by kernel_rfl) (fun β => by kernel_rfl) (fun β w1 k1 h1 => every_any p w1 hn8)⟩,
              tri_callVW (fun β => .bool true) (fun β => by kernel_rfl) 86 (fun β => #[.agg #[iV p.ll, iV p.lh, iV p.ul, iV p.uh, .slice p.ea p.es.length p.ec], .agg #[iV p.ll, iV p.lh], iV (p.all : Int)]) (by kernel_rfl) (fun β extra => by kernel_rfl) (fun β => by kernel_rfl) (fun β w1 k1 h1 => (by have h := (by have h := can_any p (p.ll, p.lh) _ p.all w1 (hp.keep (k1.keeps (fun _ h => h))) hF (by omega) (by unfold bdS; dsimp only; omega) rfl; rw [can_rn hF] at h; exact h); rw [hd2] at h; exact h))⟩
              (fun β => ⟨[(1, pA b1), (2, iV 0), (3, iV 0), (16, .bool true)], [(b1, aO #[iV p.ll, iV p.lh, iV p.ul, iV p.uh, .slice p.ea p.es.length p.ec] 26)]⟩) (fun β => by kernel_rfl) (fun β2 => ?_)
      refine run_auto [] 6 [true] [] [1, 2, 3] [0] (st' := ⟨[(1, pA b1), (2, iV 0), (3, iV 4)], [(b1, aO #[iV p.ll, iV p.lh, iV p.ul, iV p.uh, .slice p.ea p.es.length p.ec] 26)]⟩) (acc := [(.bool true, .bool true)]) (by kernel_rfl) (by kernel_rfl) ⟨rfl, trivial⟩ ?_
      refine run_end (fn := f27) rfl (Nat.le_refl _) (by kernel_rfl) [] [iV 0, iV 4] (e := []) (by kernel_rfl) trivial (fun w1 k1 h1 => ?_)
      unfold clashR
      rw [hd1, hd2]
      exact ⟨rfl, k1.keeps (fun _ h => h)⟩

end Go.Proofs.YtdjnkdelmmpleaaGreat
