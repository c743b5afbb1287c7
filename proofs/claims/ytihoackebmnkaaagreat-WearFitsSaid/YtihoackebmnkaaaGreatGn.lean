/-
  LAW: with: a block with an event more.
  LAW: a block with a reading more: numbers.
-/
import Derived.Test.YtihoackebmnkaaaGreatGi
import Derived.Test.YtihoackebmnkaaaGreatGb
namespace Go.Proofs.YtihoackebmnkaaaGreat
open Go.RowKit Go.Proofs.Tryz

set_option maxRecDepth 100000 in
theorem lwith_any (p : Wb) (x : Ev) (be oe : Nat) (w : World) (hp : p.In w) (hea : p.ea = some ⟨be, oe, none⟩) (h8 : p.es.length ≤ 8) (hne : 0 < p.es.length) : Calls Tryz.prog 34 #[.agg #[.int .i64 p.ll, .int .i64 p.lh, .int .i64 p.ul, .int .i64 p.uh, .slice (some ⟨be, oe, none⟩) p.es.length p.ec], .agg #[.int .i64 (x).1, .int .i64 (x).2.1, .int .i64 (x).2.2.1, .int .i64 (x).2.2.2]] w (NwL (α := Nat × Nat × List Value) (fun x_ => .tuple #[.agg #[.int .i64 p.ll, .int .i64 p.lh, .int .i64 p.ul, .int .i64 p.uh, .slice (some ⟨(x_.1), 0, none⟩) ((p.es ++ [x]).length) (x_.2.1)], .bool (decide (p.es.length + 1 ≤ 8))]) (fun x_ => [((x_.1), .cells ((p.es ++ [x]).flatMap evR ++ (x_.2.2)).toArray 55 (0, 0))]) (fun x_ => p.es.length + 1 ≤ x_.2.1) w) := by
  have hce : ∀ w1, Kept (fun _ => False) w w1 → ∀ j u, (p.es.flatMap evR)[j]? = some u → w1.cell? ((⟨be, oe, none⟩ : Addr).add j) = some u := fun w1 k1 j u hu => by
      obtain ⟨b2, o2, h1, h2⟩ := (hp.ev.keep (k1.keeps (fun _ h => h))).flat (by intro h; rw [h] at hne; cases hne)
      rw [hea] at h1
      injection h1 with h1
      injection h1 with e1 e2
      subst e1; subst e2
      exact h2 j u hu
  refine calls_run (fn := f34) (c := (f34.body).getD .skip) [.agg #[.int .i64 p.ll, .int .i64 p.lh, .int .i64 p.ul, .int .i64 p.uh, .slice (some ⟨be, oe, none⟩) p.es.length p.ec], .agg #[.int .i64 (x).1, .int .i64 (x).2.1, .int .i64 (x).2.2.1, .int .i64 (x).2.2.2]] func34 (by kernel_rfl) (fun _ => False) [] (fun _ h => by cases h) (List.Pairwise.nil) 21 (by kernel_rfl) (by simp) ?_
  refine run_auto [] 2 [] [] [0, 1] [] (st' := ⟨[(0, .agg #[iV p.ll, iV p.lh, iV p.ul, iV p.uh, .slice (some ⟨be, oe, none⟩) p.es.length p.ec]), (1, .agg #[iV (x).1, iV (x).2.1, iV (x).2.2.1, iV (x).2.2.2])], []⟩) (acc := []) (by kernel_rfl) (by kernel_rfl) trivial ?_
  refine run_new (aO #[iV p.ll, iV p.lh, iV p.ul, iV p.uh, .slice (some ⟨be, oe, none⟩) p.es.length p.ec] 26) (fun b1 => pA b1) (some 2) (fun _ => by kernel_rfl) (fun b1 hb1 => ?_)
  refine run_new (aO #[iV (x).1, iV (x).2.1, iV (x).2.2.1, iV (x).2.2.2] 55) (fun b2 => pA b2) (some 3) (fun _ => by kernel_rfl) (fun b2 hb2 => ?_)
  refine run_new (aO #[iV 0, iV 0, iV 0, iV 0, .slice none 0 0] 26) (fun b3 => pA b3) (some 4) (fun _ => by kernel_rfl) (fun b3 hb3 => ?_)
  refine run_auto [] 5 [] [2] [2, 3, 4, 5, 7] [0, 1, 2] (st' := ⟨[(2, pA b1), (3, pA b2), (4, pA b3), (5, .bool false), (7, .agg #[iV p.ll, iV p.lh, iV p.ul, iV p.uh, .slice (some ⟨be, oe, none⟩) p.es.length p.ec])], [(b3, aO #[iV 0, iV 0, iV 0, iV 0, .slice none 0 0] 26), (b2, aO #[iV (x).1, iV (x).2.1, iV (x).2.2.1, iV (x).2.2.2] 55), (b1, aO #[iV p.ll, iV p.lh, iV p.ul, iV p.uh, .slice (some ⟨be, oe, none⟩) p.es.length p.ec] 26)]⟩) (acc := [(pA b1, pA b1)]) (by kernel_rfl) (by kernel_rfl) ⟨rfl, trivial⟩ ?_
  refine run_new (aO #[iV 0, iV 0, iV 0, iV 0, .slice none 0 0] 26) (fun b4 => pA b4) (some 6) (fun _ => by kernel_rfl) (fun b4 hb4 => ?_)
  refine run_auto [] 3 [] [0] [2, 3, 4, 5, 6] [0, 1, 2, 3] (st' := ⟨[(2, pA b1), (3, pA b2), (4, pA b3), (5, .bool false), (6, pA b4)], [(b4, aO #[iV p.ll, iV p.lh, iV p.ul, iV p.uh, .slice (some ⟨be, oe, none⟩) p.es.length p.ec] 26), (b3, aO #[iV 0, iV 0, iV 0, iV 0, .slice none 0 0] 26), (b2, aO #[iV (x).1, iV (x).2.1, iV (x).2.2.1, iV (x).2.2.2] 55), (b1, aO #[iV p.ll, iV p.lh, iV p.ul, iV p.uh, .slice (some ⟨be, oe, none⟩) p.es.length p.ec] 26)]⟩) (acc := [(pA b4, pA b4)]) (by kernel_rfl) (by kernel_rfl) ⟨rfl, trivial⟩ ?_
  refine drawW 9 [{ names := [4], val := fun l => .slice (some ⟨(l.getD 0 0), 0, none⟩) 0 0, upd := [(4, fun l => aO #[] 55)], news := [4] },
      { val := fun _ => .pointer (some ⟨b1, 4, none⟩), slots := [2] },
      { val := fun _ => .slice (some ⟨be, oe, none⟩) p.es.length p.ec, slots := [9], reads := [3] },
      { names := [7, 1000007], val := fun l => .slice (some ⟨(l.getD 0 0), 0, none⟩) (0 + p.es.length) (capN (0 + p.es.length) (l.getD 1 0)), upd := [(7, fun l => cO ((([] : List Ev) ++ (p.es : List Ev)).flatMap evR ++ (spareN ((.agg #[iV 0, iV 0, iV 0, iV 0])) (0 + p.es.length) (l.getD 1 0))) 55)], news := [7, 1000007], slots := [8, 10], reads := [4] },
      { val := fun _ => .agg #[iV (x).1, iV (x).2.1, iV (x).2.2.1, iV (x).2.2.2], slots := [3], reads := [2] },
      { names := [9], val := fun l => .slice (some ⟨(l.getD 0 0), 0, none⟩) 1 1, upd := [(9, fun l => aO #[iV (x).1, iV (x).2.1, iV (x).2.2.1, iV (x).2.2.2] 55)], news := [9], slots := [12] },
      { names := [10, 1000007, 1000010], val := fun l => .slice (some ⟨(l.getD 0 0), 0, none⟩) (0 + p.es.length + 1) (capE (0 + p.es.length + 1) (capN (0 + p.es.length) (l.getD 1 0)) (l.getD 2 0)), upd := [(10, fun l => cO (((([] : List Ev) ++ (p.es : List Ev)) ++ ([((x).1, (x).2.1, (x).2.2.1, (x).2.2.2)] : List Ev)).flatMap evR ++ (spE ((.agg #[iV 0, iV 0, iV 0, iV 0])) (0 + p.es.length + 1) (capN (0 + p.es.length) (l.getD 1 0)) (1 * 4) (spareN ((.agg #[iV 0, iV 0, iV 0, iV 0])) (0 + p.es.length) (l.getD 1 0)) (l.getD 2 0))) 55)], news := [10, 1000010], slots := [11, 13], reads := [7, 9], takes := [7] },
      { val := fun _ => .pointer (some ⟨b4, 4, none⟩), slots := [6] },
      { names := [10, 1000007, 1000010], upd := [(0, fun l => aO #[iV p.ll, iV p.lh, iV p.ul, iV p.uh, .slice (some ⟨(l.getD 0 0), 0, none⟩) (0 + p.es.length + 1) (capE (0 + p.es.length + 1) (capN (0 + p.es.length) (l.getD 1 0)) (l.getD 2 0))] 26)], slots := [14, 15], reads := [0] }] [[], [], [1], [0, 1, 2], [], [4], [0, 1, 2, 3, 4, 5], [0, 1, 2, 3, 4, 5, 6], [0, 1, 2, 3, 4, 5, 6, 7]] (by kernel_rfl) (by kernel_rfl) (by kernel_rfl) (by kernel_rfl) [4, 5, 6] [0, 1, 10] (by kernel_rfl)
      ⟨⟨⟨⟨⟨⟨⟨⟨⟨trivial,
      tri_newW 4 (fun β => aO #[] 55) (fun β b => sV b 0 0) [0] (by kernel_rfl) (fun β extra b => by kernel_rfl) (by kernel_rfl) (fun β b => by kernel_rfl) (fun β b => by kernel_rfl) (fun β b => by kernel_rfl)⟩,
      tri_quietW (fun β => []) [] [] (fun β => []) (by kernel_rfl) (fun β extra => by kernel_rfl) (by kernel_rfl) (fun β => trivial)⟩,
      tri_quietW (fun β => []) [0] [0] (fun β => [(pA b1, pA b1)]) (by kernel_rfl) (fun β extra => by kernel_rfl) (by kernel_rfl) (fun β => ⟨rfl, trivial⟩)⟩,
      tri_growW (t := 24) (ty := 24) (e := 55) (n := 4) (z := (.agg #[iV 0, iV 0, iV 0, iV 0])) (by kernel_rfl) (by kernel_rfl) (by kernel_rfl) rfl (by kernel_rfl) evR evR_len 7 1000007 rfl rfl (fun β => (β 4)) (fun β => ⟨be, oe, none⟩) 0 p.es.length 0 p.ec ([] : List Ev) (p.es : List Ev) ([]) (by first | rfl | omega | (simp; done) | (simp; omega)) (by first | rfl | omega | (simp; done) | (simp; omega)) (by omega) (by omega) (by kernel_rfl) (fun β extra => by kernel_rfl) (fun β => by kernel_rfl) (fun β b x => by kernel_rfl) (fun β b x => by kernel_rfl) (fun β b x => by kernel_rfl) (fun β => (fun w1 k1 h1 jq uq hu => hce w1 k1 jq uq hu))⟩,
      tri_quietW (fun β => []) [0] [0] (fun β => [(pA b2, pA b2)]) (by kernel_rfl) (fun β extra => by kernel_rfl) (by kernel_rfl) (fun β => ⟨rfl, trivial⟩)⟩,
      tri_newW 9 (fun β => aO #[iV (x).1, iV (x).2.1, iV (x).2.2.1, iV (x).2.2.2] 55) (fun β b => sV b 1 1) [0] (by kernel_rfl) (fun β extra b => by kernel_rfl) (by kernel_rfl) (fun β b => by kernel_rfl) (fun β b => by kernel_rfl) (fun β b => by kernel_rfl)⟩,
      tri_app (t := 24) (ty := 24) (e := 55) (n := 4) (z := (.agg #[iV 0, iV 0, iV 0, iV 0])) (by kernel_rfl) (by kernel_rfl) (by kernel_rfl) rfl (by kernel_rfl) evR evR_len evR_one 10 1000010 7 rfl rfl (fun β => (β 7)) (fun β => ⟨(β 9), 0, none⟩) (fun β => [((β 9), aO #[iV (x).1, iV (x).2.1, iV (x).2.2.1, iV (x).2.2.2] 55)]) (0 + p.es.length) 1 1 (fun β => (capN (0 + p.es.length) (β 1000007))) (([] : List Ev) ++ (p.es : List Ev)) ([((x).1, (x).2.1, (x).2.2.1, (x).2.2.2)] : List Ev) (fun β => (spareN ((.agg #[iV 0, iV 0, iV 0, iV 0])) (0 + p.es.length) (β 1000007))) (by first | rfl | omega | (simp; done) | (simp; omega)) (by first | rfl | omega | (simp; done) | (simp; omega)) (fun β => (grow_len (l := 0 + p.es.length) evR_len (by first | rfl | omega | (simp; done) | (simp; omega)) (by simp only [maxLen]; omega) _ rfl _)) (by omega) (by kernel_rfl) (by kernel_rfl) (fun β extra => by kernel_rfl) (fun β => by kernel_rfl) (fun β b x => by kernel_rfl) (fun β b x => by kernel_rfl) (fun β b x => by kernel_rfl) (fun β => by kernel_rfl) (fun β w1 k1 h1 jq uq hu => by rw [add_none, Nat.zero_add]; exact cells_of_heap (h1 ((β 9), aO #[iV (x).1, iV (x).2.1, iV (x).2.2.1, iV (x).2.2.2] 55) (List.mem_of_getElem? (i := 1) (by kernel_rfl))) jq uq hu)⟩,
      tri_quietW (fun β => []) [] [] (fun β => []) (by kernel_rfl) (fun β extra => by kernel_rfl) (by kernel_rfl) (fun β => trivial)⟩,
      tri_quietW (fun β => []) [0] [0] (fun β => [(pA b4, pA b4)]) (by kernel_rfl) (fun β extra => by kernel_rfl) (by kernel_rfl) (fun β => ⟨rfl, trivial⟩)⟩
      (fun β => ⟨[(4, pA b3), (5, .bool false), (6, pA b4)], [(b4, aO #[iV p.ll, iV p.lh, iV p.ul, iV p.uh, .slice (some ⟨(β 10), 0, none⟩) (0 + p.es.length + 1) (capE (0 + p.es.length + 1) (capN (0 + p.es.length) (β 1000007)) (β 1000010))] 26), (b3, aO #[iV 0, iV 0, iV 0, iV 0, .slice none 0 0] 26), ((β 10), cO (((([] : List Ev) ++ (p.es : List Ev)) ++ ([((x).1, (x).2.1, (x).2.2.1, (x).2.2.2)] : List Ev)).flatMap evR ++ (spE ((.agg #[iV 0, iV 0, iV 0, iV 0])) (0 + p.es.length + 1) (capN (0 + p.es.length) (β 1000007)) (1 * 4) (spareN ((.agg #[iV 0, iV 0, iV 0, iV 0])) (0 + p.es.length) (β 1000007)) (β 1000010))) 55)]⟩) (fun β => by kernel_rfl) (fun β5 => ?_)
  refine run_ge0 2 (β5 10) (cO (((([] : List Ev) ++ (p.es : List Ev)) ++ ([((x).1, (x).2.1, (x).2.2.1, (x).2.2.2)] : List Ev)).flatMap evR ++ (spE ((.agg #[iV 0, iV 0, iV 0, iV 0])) (0 + p.es.length + 1) (capN (0 + p.es.length) (β5 1000007)) (1 * 4) (spareN ((.agg #[iV 0, iV 0, iV 0, iV 0])) (0 + p.es.length) (β5 1000007)) (β5 1000010))) 55) (by kernel_rfl) (fun _ h => h) (fun hge6 => ?_)
  refine run_auto [] 1 [] [] [4, 5, 6] [0, 1, 2] (st' := ⟨[(4, pA b3), (5, .bool false), (6, pA b4)], [(b4, aO #[iV p.ll, iV p.lh, iV p.ul, iV p.uh, .slice (some ⟨(β5 10), 0, none⟩) (0 + p.es.length + 1) (capE (0 + p.es.length + 1) (capN (0 + p.es.length) (β5 1000007)) (β5 1000010))] 26), (b3, aO #[iV 0, iV 0, iV 0, iV 0, .slice none 0 0] 26), ((β5 10), cO (((([] : List Ev) ++ (p.es : List Ev)) ++ ([((x).1, (x).2.1, (x).2.2.1, (x).2.2.2)] : List Ev)).flatMap evR ++ (spE ((.agg #[iV 0, iV 0, iV 0, iV 0])) (0 + p.es.length + 1) (capN (0 + p.es.length) (β5 1000007)) (1 * 4) (spareN ((.agg #[iV 0, iV 0, iV 0, iV 0])) (0 + p.es.length) (β5 1000007)) (β5 1000010))) 55)]⟩) (acc := []) (by kernel_rfl) (by kernel_rfl) trivial ?_
  cases hd1 : (decide ((0 + p.es.length + 1 : Int) ≤ 8)) with
  | false =>
    have hp1 := of_decide_eq_false hd1
    refine drawW 7 [{ val := fun _ => .agg #[iV p.ll, iV p.lh, iV p.ul, iV p.uh, .slice (some ⟨(β5 10), 0, none⟩) (0 + p.es.length + 1) (capE (0 + p.es.length + 1) (capN (0 + p.es.length) (β5 1000007)) (β5 1000010))], slots := [6], reads := [0] },
          { val := fun _ => .pointer (some ⟨b4, 4, none⟩), slots := [6] },
          { val := fun _ => .slice (some ⟨(β5 10), 0, none⟩) (0 + p.es.length + 1) (capE (0 + p.es.length + 1) (capN (0 + p.es.length) (β5 1000007)) (β5 1000010)), slots := [17], reads := [0] },
          { val := fun _ => iV (0 + p.es.length + 1 : Int), slots := [18] },
          { val := fun _ => .bool false, slots := [19] },
          { upd := [(1, fun l => aO #[iV p.ll, iV p.lh, iV p.ul, iV p.uh, .slice (some ⟨(β5 10), 0, none⟩) (0 + p.es.length + 1) (capE (0 + p.es.length + 1) (capN (0 + p.es.length) (β5 1000007)) (β5 1000010))] 26)], slots := [4, 16], reads := [1] },
          { val := fun _ => .bool false, slots := [20] }] [[], [], [1], [1, 2], [1, 2, 3], [0], [0, 1, 2, 3, 4, 5]] (by kernel_rfl) (by kernel_rfl) (by kernel_rfl) (by kernel_rfl) [4, 5] [1, 2] (by kernel_rfl)
          ⟨⟨⟨⟨⟨⟨⟨trivial,
          tri_quietW (fun β => []) [0] [0] (fun β => [(pA b4, pA b4)]) (by kernel_rfl) (fun β extra => by kernel_rfl) (by kernel_rfl) (fun β => ⟨rfl, trivial⟩)⟩,
          tri_quietW (fun β => []) [] [] (fun β => []) (by kernel_rfl) (fun β extra => by kernel_rfl) (by kernel_rfl) (fun β => trivial)⟩,
          tri_quietW (fun β => []) [0] [0] (fun β => [(pA b4, pA b4)]) (by kernel_rfl) (fun β extra => by kernel_rfl) (by kernel_rfl) (fun β => ⟨rfl, trivial⟩)⟩,
          tri_quietW (fun β => []) [] [] (fun β => []) (by kernel_rfl) (fun β extra => by kernel_rfl) (by kernel_rfl) (fun β => trivial)⟩,
          tri_quietW (fun β => [(20, .bool false)]) [] [] (fun β => [(.bool (decide ((0 + p.es.length + 1 : Int) ≤ 8)), .bool false)]) (by kernel_rfl) (fun β extra => by kernel_rfl) (by kernel_rfl) (fun β => ⟨(bo hd1), trivial⟩)⟩,
          tri_quietW (fun β => []) [0] [0] (fun β => [(pA b3, pA b3)]) (by kernel_rfl) (fun β extra => by kernel_rfl) (by kernel_rfl) (fun β => ⟨rfl, trivial⟩)⟩,
          tri_quietW (fun β => []) [] [] (fun β => []) (by kernel_rfl) (fun β extra => by kernel_rfl) (by kernel_rfl) (fun β => trivial)⟩
          (fun β => ⟨[(4, pA b3), (5, .bool false)], [(b3, aO #[iV p.ll, iV p.lh, iV p.ul, iV p.uh, .slice (some ⟨(β5 10), 0, none⟩) (0 + p.es.length + 1) (capE (0 + p.es.length + 1) (capN (0 + p.es.length) (β5 1000007)) (β5 1000010))] 26), ((β5 10), cO (((([] : List Ev) ++ (p.es : List Ev)) ++ ([((x).1, (x).2.1, (x).2.2.1, (x).2.2.2)] : List Ev)).flatMap evR ++ (spE ((.agg #[iV 0, iV 0, iV 0, iV 0])) (0 + p.es.length + 1) (capN (0 + p.es.length) (β5 1000007)) (1 * 4) (spareN ((.agg #[iV 0, iV 0, iV 0, iV 0])) (0 + p.es.length) (β5 1000007)) (β5 1000010))) 55)]⟩) (fun β => by kernel_rfl) (fun β7 => ?_)
    refine run_end (fn := f34) rfl (Nat.le_refl _) (by kernel_rfl) [0] [.agg #[iV p.ll, iV p.lh, iV p.ul, iV p.uh, .slice (some ⟨(β5 10), 0, none⟩) (0 + p.es.length + 1) (capE (0 + p.es.length + 1) (capN (0 + p.es.length) (β5 1000007)) (β5 1000010))], .bool false] (e := [(pA b3, pA b3)]) (by kernel_rfl) ⟨rfl, trivial⟩ (fun w1 k1 h1 => ?_)
    have hel : ((([] : List Ev) ++ (p.es : List Ev)) ++ ([((x).1, (x).2.1, (x).2.2.1, (x).2.2.2)] : List Ev)).flatMap evR ++ (spE ((.agg #[iV 0, iV 0, iV 0, iV 0])) (0 + p.es.length + 1) (capN (0 + p.es.length) (β5 1000007)) (1 * 4) (spareN ((.agg #[iV 0, iV 0, iV 0, iV 0])) (0 + p.es.length) (β5 1000007)) (β5 1000010)) = (p.es ++ [x]).flatMap evR ++ (spE ((.agg #[iV 0, iV 0, iV 0, iV 0])) (0 + p.es.length + 1) (capN (0 + p.es.length) (β5 1000007)) (1 * 4) (spareN ((.agg #[iV 0, iV 0, iV 0, iV 0])) (0 + p.es.length) (β5 1000007)) (β5 1000010)) := by simp
    rw [hel] at h1
    refine ⟨((β5 10), (capE (0 + p.es.length + 1) (capN (0 + p.es.length) (β5 1000007)) (β5 1000010)), (spE ((.agg #[iV 0, iV 0, iV 0, iV 0])) (0 + p.es.length + 1) (capN (0 + p.es.length) (β5 1000007)) (1 * 4) (spareN ((.agg #[iV 0, iV 0, iV 0, iV 0])) (0 + p.es.length) (β5 1000007)) (β5 1000010))), by have h := (by have := capE_ge (l := 0 + p.es.length + 1) (by simp only [maxLen]; omega) (capN (0 + p.es.length) (β5 1000007)) (β5 1000010); omega); simp at h ⊢; try omega, ?_, k1.keeps (fun _ h => h), fun q hq => ?_, List.pairwise_singleton _ _⟩
    · show Ending.returned _ = Ending.returned _
      rw [show (p.es ++ [x]).length = 0 + p.es.length + 1 by simp; try omega]
      dsimp only
      rw [show decide (p.es.length + 1 ≤ 8) = false from decide_eq_false (by omega)]
      rfl
    · rw [List.mem_singleton] at hq
      subst hq
      exact ⟨h1 ((β5 10), _) (List.mem_of_getElem? (i := 1) rfl), hge6⟩
  | true =>
    have hp1 := of_decide_eq_true hd1
    refine drawW 7 [{ val := fun _ => .agg #[iV p.ll, iV p.lh, iV p.ul, iV p.uh, .slice (some ⟨(β5 10), 0, none⟩) (0 + p.es.length + 1) (capE (0 + p.es.length + 1) (capN (0 + p.es.length) (β5 1000007)) (β5 1000010))], slots := [6], reads := [0] },
          { val := fun _ => .pointer (some ⟨b4, 4, none⟩), slots := [6] },
          { val := fun _ => .slice (some ⟨(β5 10), 0, none⟩) (0 + p.es.length + 1) (capE (0 + p.es.length + 1) (capN (0 + p.es.length) (β5 1000007)) (β5 1000010)), slots := [17], reads := [0] },
          { val := fun _ => iV (0 + p.es.length + 1 : Int), slots := [18] },
          { val := fun _ => .bool true, slots := [19] },
          { upd := [(1, fun l => aO #[iV p.ll, iV p.lh, iV p.ul, iV p.uh, .slice (some ⟨(β5 10), 0, none⟩) (0 + p.es.length + 1) (capE (0 + p.es.length + 1) (capN (0 + p.es.length) (β5 1000007)) (β5 1000010))] 26)], slots := [4, 16], reads := [1] },
          { val := fun _ => .bool true, slots := [20] }] [[], [], [1], [1, 2], [1, 2, 3], [0], [0, 1, 2, 3, 4, 5]] (by kernel_rfl) (by kernel_rfl) (by kernel_rfl) (by kernel_rfl) [4, 5] [1, 2] (by kernel_rfl)
          ⟨⟨⟨⟨⟨⟨⟨trivial,
          tri_quietW (fun β => []) [0] [0] (fun β => [(pA b4, pA b4)]) (by kernel_rfl) (fun β extra => by kernel_rfl) (by kernel_rfl) (fun β => ⟨rfl, trivial⟩)⟩,
          tri_quietW (fun β => []) [] [] (fun β => []) (by kernel_rfl) (fun β extra => by kernel_rfl) (by kernel_rfl) (fun β => trivial)⟩,
          tri_quietW (fun β => []) [0] [0] (fun β => [(pA b4, pA b4)]) (by kernel_rfl) (fun β extra => by kernel_rfl) (by kernel_rfl) (fun β => ⟨rfl, trivial⟩)⟩,
          tri_quietW (fun β => []) [] [] (fun β => []) (by kernel_rfl) (fun β extra => by kernel_rfl) (by kernel_rfl) (fun β => trivial)⟩,
          tri_quietW (fun β => [(20, .bool true)]) [] [] (fun β => [(.bool (decide ((0 + p.es.length + 1 : Int) ≤ 8)), .bool true)]) (by kernel_rfl) (fun β extra => by kernel_rfl) (by kernel_rfl) (fun β => ⟨(bo hd1), trivial⟩)⟩,
          tri_quietW (fun β => []) [0] [0] (fun β => [(pA b3, pA b3)]) (by kernel_rfl) (fun β extra => by kernel_rfl) (by kernel_rfl) (fun β => ⟨rfl, trivial⟩)⟩,
          tri_quietW (fun β => []) [] [] (fun β => []) (by kernel_rfl) (fun β extra => by kernel_rfl) (by kernel_rfl) (fun β => trivial)⟩
          (fun β => ⟨[(4, pA b3), (5, .bool true)], [(b3, aO #[iV p.ll, iV p.lh, iV p.ul, iV p.uh, .slice (some ⟨(β5 10), 0, none⟩) (0 + p.es.length + 1) (capE (0 + p.es.length + 1) (capN (0 + p.es.length) (β5 1000007)) (β5 1000010))] 26), ((β5 10), cO (((([] : List Ev) ++ (p.es : List Ev)) ++ ([((x).1, (x).2.1, (x).2.2.1, (x).2.2.2)] : List Ev)).flatMap evR ++ (spE ((.agg #[iV 0, iV 0, iV 0, iV 0])) (0 + p.es.length + 1) (capN (0 + p.es.length) (β5 1000007)) (1 * 4) (spareN ((.agg #[iV 0, iV 0, iV 0, iV 0])) (0 + p.es.length) (β5 1000007)) (β5 1000010))) 55)]⟩) (fun β => by kernel_rfl) (fun β7 => ?_)
    refine run_end (fn := f34) rfl (Nat.le_refl _) (by kernel_rfl) [0] [.agg #[iV p.ll, iV p.lh, iV p.ul, iV p.uh, .slice (some ⟨(β5 10), 0, none⟩) (0 + p.es.length + 1) (capE (0 + p.es.length + 1) (capN (0 + p.es.length) (β5 1000007)) (β5 1000010))], .bool true] (e := [(pA b3, pA b3)]) (by kernel_rfl) ⟨rfl, trivial⟩ (fun w1 k1 h1 => ?_)
    have hel : ((([] : List Ev) ++ (p.es : List Ev)) ++ ([((x).1, (x).2.1, (x).2.2.1, (x).2.2.2)] : List Ev)).flatMap evR ++ (spE ((.agg #[iV 0, iV 0, iV 0, iV 0])) (0 + p.es.length + 1) (capN (0 + p.es.length) (β5 1000007)) (1 * 4) (spareN ((.agg #[iV 0, iV 0, iV 0, iV 0])) (0 + p.es.length) (β5 1000007)) (β5 1000010)) = (p.es ++ [x]).flatMap evR ++ (spE ((.agg #[iV 0, iV 0, iV 0, iV 0])) (0 + p.es.length + 1) (capN (0 + p.es.length) (β5 1000007)) (1 * 4) (spareN ((.agg #[iV 0, iV 0, iV 0, iV 0])) (0 + p.es.length) (β5 1000007)) (β5 1000010)) := by simp
    rw [hel] at h1
    refine ⟨((β5 10), (capE (0 + p.es.length + 1) (capN (0 + p.es.length) (β5 1000007)) (β5 1000010)), (spE ((.agg #[iV 0, iV 0, iV 0, iV 0])) (0 + p.es.length + 1) (capN (0 + p.es.length) (β5 1000007)) (1 * 4) (spareN ((.agg #[iV 0, iV 0, iV 0, iV 0])) (0 + p.es.length) (β5 1000007)) (β5 1000010))), by have h := (by have := capE_ge (l := 0 + p.es.length + 1) (by simp only [maxLen]; omega) (capN (0 + p.es.length) (β5 1000007)) (β5 1000010); omega); simp at h ⊢; try omega, ?_, k1.keeps (fun _ h => h), fun q hq => ?_, List.pairwise_singleton _ _⟩
    · show Ending.returned _ = Ending.returned _
      rw [show (p.es ++ [x]).length = 0 + p.es.length + 1 by simp; try omega]
      dsimp only
      rw [show decide (p.es.length + 1 ≤ 8) = true from decide_eq_true (by omega)]
      rfl
    · rw [List.mem_singleton] at hq
      subst hq
      exact ⟨h1 ((β5 10), _) (List.mem_of_getElem? (i := 1) rfl), hge6⟩

end Go.Proofs.YtihoackebmnkaaaGreat

namespace Go.Proofs.YtihoackebmnkaaaGreat
open Go.RowKit Go.Proofs.Tryz


def Wn.add (w : Wn) (x : Ev) : Wn := ⟨w.l, w.u, w.es ++ [x]⟩
/-- A block with an event more, whose events lie elsewhere. -/
def Wb.add (p : Wb) (x : Ev) (a : Option Addr) (c : Nat) : Wb := ⟨p.ll, p.lh, p.ul, p.uh, a, c, p.es ++ [x]⟩
theorem add_n (p : Wb) (x : Ev) (a : Option Addr) (c : Nat) : (p.add x a c).n = p.n.add x := rfl
theorem add_len (w : Wn) (x : Ev) : (w.add x).es.length = w.es.length + 1 := by unfold Wn.add; simp
theorem add_fine {w : Wn} {x : Ev} (h : w.Fine) (hx : vEv x = true) (h7 : w.es.length < 8) : (w.add x).Fine := by
  refine ⟨h.l, h.lw, h.u, by rw [add_len]; omega, fun e he => ?_⟩
  rcases List.mem_append.1 he with he | he
  · exact h.ev e he
  · rw [List.mem_singleton] at he
    subst he
    exact hx
theorem FW_add (u l : Sp) (es : List Ev) (x : Ev) {i : Nat} (h : i ≤ es.length) : FW u l (es ++ [x]) i = FW u l es i := by
  unfold FW
  rw [List.take_append_of_le_length h]
theorem elE_add (es : List Ev) (x : Ev) : elE (es ++ [x]) es.length = x := by
  unfold elE
  rw [List.getElem?_append_right (Nat.le_refl _), Nat.sub_self]
  rfl
theorem FW_addL (u l : Sp) (es : List Ev) (x : Ev) : FW u l (es ++ [x]) (es.length + 1) = fwdE u x (FW u l es es.length) := by
  rw [FW_next u l (by simp), FW_add u l es x (Nat.le_refl _), elE_add]
theorem fwd_read {u : Sp} {x : Ev} (h : x.1 = 1) (k : Sp) : fwdE u x k = cutS k x.2.2 := by
  unfold fwdE
  rw [show (x.1 == 0) = false by rw [h]; rfl, show (x.1 == 2) = false by rw [h]; rfl]
  rfl
theorem B_last (w : Wn) : w.B w.es.length = FW w.u w.l w.es w.es.length := BW_last _ _ _
theorem add_last {w : Wn} {x : Ev} (h : x.1 = 1) : (w.add x).B (w.es.length + 1) = cutS (w.B w.es.length) x.2.2 := by
  have h1 := B_last (w.add x)
  rw [add_len] at h1
  rw [h1, B_last]
  show FW w.u w.l (w.es ++ [x]) (w.es.length + 1) = _
  rw [FW_addL, fwd_read h]
theorem add_can {w : Wn} {x : Ev} (hF : w.Fine) (hx : vEv x = true) (h7 : w.es.length < 8) (h : x.1 = 1) : (w.add x).can = possS (cutS (w.B w.es.length) x.2.2) := by
  rw [(add_fine hF hx h7).ok_.can_F, ← add_last h]
  unfold Wn.F
  have h1 := B_last (w.add x)
  rw [← h1, add_len]
theorem mC_add {w : Wn} {x : Ev} (h : x.1 = 1) : mC (w.add x) (w.es.length + 1) = cutS (mC w w.es.length) x.2.2 := by
  rw [mC_le _ (by rw [add_len]; exact Nat.le_refl _), mC_le _ (Nat.le_refl _), add_last h]
theorem add_lost1 {w : Wn} {x : Ev} (h : x.1 = 1) (a : Int) : (w.add x).lost1 a = cutS (w.lost1 a) x.2.2 := by
  unfold Wn.lost1
  rw [add_len]
  show FW w.u (a, a) (w.es ++ [x]) (w.es.length + 1) = _
  rw [FW_addL, fwd_read h]
theorem lostK_congr {w v : Wn} (hl : w.l = v.l) : ∀ t : Nat, (∀ i : Nat, i < t → possS (w.lost1 (w.l.1 + (i : Int))) = possS (v.lost1 (w.l.1 + (i : Int))) ∧ (possS (w.lost1 (w.l.1 + (i : Int))) = true → w.lost1 (w.l.1 + (i : Int)) = v.lost1 (w.l.1 + (i : Int)))) → lostK w t = lostK v t
  | 0, _ => rfl
  | t + 1, h => by
    have ih := lostK_congr hl t fun i hi => h i (by omega)
    have h1 := h t (by omega)
    cases hb : possS (w.lost1 (w.l.1 + (t : Int))) with
    | false => rw [lostK_no rfl hb, lostK_no (by rw [hl]) (h1.1.symm.trans hb), ih]
    | true => rw [lostK_yes rfl hb, lostK_yes (by rw [hl]) (h1.1.symm.trans hb), ih, h1.2 hb]
theorem cut_self {a b : Sp} (h1 : b.1 ≤ a.1) (h2 : a.2 ≤ b.2) : cutS a b = a := by
  unfold cutS
  rw [Int.max_eq_left h1, Int.min_eq_left h2]
theorem add_lost {w : Wn} {x : Ev} (hF : w.Fine) (h : x.1 = 1) (h1 : x.2.2.1 ≤ (w.B w.es.length).1) (h2 : (w.B w.es.length).2 ≤ x.2.2.2) : (w.add x).lost = w.lost := by
  have key : ∀ t, t ≤ w.nl → lostK (w.add x) t = lostK w t := fun t ht => (lostK_congr (w := w) (v := w.add x) rfl t fun i hi => by
    rw [add_lost1 h]
    cases hb : possS (w.lost1 (w.l.1 + (i : Int))) with
    | false =>
      refine ⟨?_, fun h => by cases h⟩
      unfold possS cutS at *
      have := of_decide_eq_false hb
      exact (decide_eq_false (by dsimp only; omega)).symm
    | true =>
      have hle : (w.lost1 (w.l.1 + (i : Int))).1 ≤ (w.lost1 (w.l.1 + (i : Int))).2 := of_decide_eq_true hb
      have hin : ∀ z, inP z (w.lost1 (w.l.1 + (i : Int))) → inP z (w.B w.es.length) := fun z hz => by
        rw [B_last]
        refine (hF.ok_.F_in w.es.length z).2 ⟨_, ?_, by rw [List.take_length]; exact (hF.ok_.lost_in _ z).1 hz⟩
        have hl := hF.l
        unfold inP
        unfold Wn.nl at ht
        omega
      have i1 := hin _ ⟨Int.le_refl _, hle⟩
      have i2 := hin _ ⟨hle, Int.le_refl _⟩
      have e := cut_self (a := w.lost1 (w.l.1 + (i : Int))) (b := x.2.2) (Int.le_trans h1 i1.1) (Int.le_trans i2.2 h2)
      rw [e]
      exact ⟨hb.symm, fun _ => rfl⟩).symm
  unfold Wn.lost
  rw [show (w.add x).nl = w.nl from rfl, key _ (Nat.le_refl _)]
/-- A block whose first length is known. -/
def Wn.one (w : Wn) (m : Int) : Wn := ⟨(m, m), w.u, w.es⟩
def Wb.one (p : Wb) (m : Int) : Wb := ⟨m, m, p.ul, p.uh, p.ea, p.ec, p.es⟩
end Go.Proofs.YtihoackebmnkaaaGreat
