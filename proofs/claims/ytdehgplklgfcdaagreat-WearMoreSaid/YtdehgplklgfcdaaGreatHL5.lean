/-
  LAW: WearMore, walked.
-/
import Derived.Test.YtdehgplklgfcdaaGreatHL3
namespace Go.Proofs.YtdehgplklgfcdaaGreat
open Go.RowKit Go.Proofs.Tryz
attribute [local irreducible] Run wpK

set_option maxRecDepth 100000 in
set_option maxHeartbeats 4000000 in
theorem wearMore_any (p : Wb) (z x y : Int) (z1 : 0 ≤ z) (z2 : z ≤ 255) (x1 : 0 ≤ x) (x2 : x ≤ 255) (y1 : 0 ≤ y) (y2 : y ≤ 65535) (w : World) (hp : p.In w) (hcap : p.es.length ≤ p.ec) : Calls Tryz.prog 10 #[.agg #[.int .i64 p.ll, .int .i64 p.lh, .int .i64 p.ul, .int .i64 p.uh, .slice p.ea p.es.length p.ec], .int .u8 z, .int .u8 x, .int .u16 y] w (RetB true w) := by
  obtain ⟨r, hr⟩ : ∃ r, y % 420 = r := ⟨_, rfl⟩
  obtain ⟨d, hd⟩ : ∃ d, x % 40 = d := ⟨_, rfl⟩
  obtain ⟨m, hmr⟩ : ∃ m, r - 60 = m := ⟨_, rfl⟩
  obtain ⟨mh, hmh⟩ : ∃ x, m + d = x := ⟨_, rfl⟩
  have hml : (1000000 : Nat) ≤ maxLen := by simp only [maxLen]; omega
  obtain ⟨pl, hpl⟩ : ∃ k : Nat, z % ((p.es.length : Int) + 1) = (k : Int) := ⟨(z % ((p.es.length : Int) + 1)).toNat, (Int.toNat_of_nonneg (Int.emod_nonneg _ (by omega))).symm⟩
  have hpln : pl ≤ p.es.length := by have := Int.emod_lt_of_pos z (show (0 : Int) < (p.es.length : Int) + 1 by omega); omega
  obtain ⟨a1, hs1⟩ := cutH_any (P := Tryz.prog) (t := 24) (e := 55) (n := 4) (by kernel_rfl) (by kernel_rfl) p.ea p.es.length p.ec .i64 pl (by omega)
  obtain ⟨a2, c2, hs2⟩ := cutL_any (P := Tryz.prog) (t := 24) (e := 55) (n := 4) (by kernel_rfl) (by kernel_rfl) p.ea p.es.length p.ec .i64 pl (by omega)
  refine calls_run (fn := f10) (c := (f10.body).getD .skip) [.agg #[.int .i64 p.ll, .int .i64 p.lh, .int .i64 p.ul, .int .i64 p.uh, .slice p.ea p.es.length p.ec], .int .u8 z, .int .u8 x, .int .u16 y] func10 (by kernel_rfl) (fun _ => False) [] (fun _ h => by cases h) (List.Pairwise.nil) 331 (by kernel_rfl) (by simp) ?_
  refine run_auto [] 2 [] [] [0, 1, 2, 3] [] (st' := ⟨[(0, .agg #[iV p.ll, iV p.lh, iV p.ul, iV p.uh, .slice p.ea p.es.length p.ec]), (1, .int .u8 z), (2, .int .u8 x), (3, .int .u16 y)], []⟩) (acc := []) (by kernel_rfl) (by kernel_rfl) trivial ?_
  refine run_new (aO #[iV p.ll, iV p.lh, iV p.ul, iV p.uh, .slice p.ea p.es.length p.ec] 26) (fun b1 => pA b1) (some 4) (fun _ => by kernel_rfl) (fun b1 hb1 => ?_)
  refine run_auto [] 6 [] [0] [1, 2, 3, 4, 8, 43] [0] (st' := ⟨[(1, .int .u8 z), (2, .int .u8 x), (3, .int .u16 y), (4, pA b1), (8, .bool false), (43, .agg #[iV p.ll, iV p.lh, iV p.ul, iV p.uh, .slice p.ea p.es.length p.ec])], [(b1, aO #[iV p.ll, iV p.lh, iV p.ul, iV p.uh, .slice p.ea p.es.length p.ec] 26)]⟩) (acc := [(pA b1, pA b1)]) (by kernel_rfl) (by kernel_rfl) ⟨rfl, trivial⟩ ?_
  cases hd1 : p.n.ok with
  | false =>
    refine run_ret1 28 #[.agg #[iV p.ll, iV p.lh, iV p.ul, iV p.uh, .slice p.ea p.es.length p.ec]] (some 44) (.bool false) (by kernel_rfl) (fun w1 k1 h1 => (by have h := fine_any p w1 (hp.keep (k1.keeps (fun _ h => h))); rw [hd1] at h; exact h)) ?_
    refine run_auto [(45, .bool true)] 5 [true] [] [1, 2, 3, 4, 8] [0] (st' := ⟨[(1, .int .u8 z), (2, .int .u8 x), (3, .int .u16 y), (4, pA b1), (8, .bool false)], [(b1, aO #[iV p.ll, iV p.lh, iV p.ul, iV p.uh, .slice p.ea p.es.length p.ec] 26)]⟩) (acc := [(.bool true, .bool true), (.bool true, .bool true)]) (by kernel_rfl) (by kernel_rfl) ⟨rfl, rfl, trivial⟩ ?_
    refine run_ret1 13 #[] (some 46) (.bool true) (by kernel_rfl) (fun w1 k1 h1 => awake_any w1) ?_
    refine run_auto [] 2 [] [] [1, 2, 3, 4, 8] [0] (st' := ⟨[(1, .int .u8 z), (2, .int .u8 x), (3, .int .u16 y), (4, pA b1), (8, .bool true)], [(b1, aO #[iV p.ll, iV p.lh, iV p.ul, iV p.uh, .slice p.ea p.es.length p.ec] 26)]⟩) (acc := []) (by kernel_rfl) (by kernel_rfl) trivial ?_
    refine run_end (fn := f10) rfl (Nat.le_refl _) (by kernel_rfl) [] [.bool true] (e := []) (by kernel_rfl) trivial (fun w1 k1 h1 => ?_)
    exact ⟨rfl, k1.keeps (fun _ h => h)⟩
  | true =>
    have hok := hd1
    have hF := Wn.fine hok
    have hn8 : p.es.length ≤ 8 := hF.n8
    refine run_ret1 28 #[.agg #[iV p.ll, iV p.lh, iV p.ul, iV p.uh, .slice p.ea p.es.length p.ec]] (some 44) (.bool true) (by kernel_rfl) (fun w1 k1 h1 => (by have h := fine_any p w1 (hp.keep (k1.keeps (fun _ h => h))); rw [hd1] at h; exact h)) ?_
    refine run_auto [(45, .bool false), (51, iV z), (53, iV ((p.es.length : Int) + 1)), (54, iV (pl : Int)), (56, iV y), (57, iV r), (58, iV m)] 33 [false] [0] [1, 2, 3, 4, 8, 10, 11, 12] [0] (st' := ⟨[(1, .int .u8 z), (2, .int .u8 x), (3, .int .u16 y), (4, pA b1), (8, .bool false), (10, iV (pl : Int)), (11, iV m), (12, .slice none 0 0)], [(b1, aO #[iV p.ll, iV p.lh, iV p.ul, iV p.uh, .slice p.ea p.es.length p.ec] 26)]⟩) (acc := [(iV (IntKind.i64.wrap (r - 60)), iV m), (iV (Int.tmod y 420), iV r), (iV (IntKind.i64.wrap y), iV y), (iV (Int.tmod z ((p.es.length : Int) + 1)), iV (pl : Int)), (iV (IntKind.i64.wrap ((p.es.length : Int) + 1)), iV ((p.es.length : Int) + 1)), (iV (IntKind.i64.wrap z), iV z), (pA b1, pA b1), (.bool false, .bool false), (.bool false, .bool false)]) (by kernel_rfl) (by kernel_rfl) ⟨((wr (by omega) (by omega)).trans (io hmr)), ((rm 420 (by omega)).trans (io hr)), (wr (by omega) (by omega)), ((rm ((p.es.length : Int) + 1) (by omega)).trans (io hpl)), (wr (by omega) (by omega)), (wr (by omega) (by omega)), rfl, rfl, rfl, trivial⟩ ?_
    cases hd2 : (decide (0 < p.es.length)) with
    | false =>
      have hp2 := of_decide_eq_false hd2
      have hes : p.es = [] := List.eq_nil_of_length_eq_zero (by omega)
      cases hd3 : (decide (0 < pl)) with
      | false =>
        have hp3 := of_decide_eq_false hd3
        refine drawW 21 [{ val := fun _ => .slice none 0 0, slots := [12] },
                  { val := fun _ => .pointer (some ⟨b1, 4, none⟩), slots := [4] },
                  { val := fun _ => .slice p.ea p.es.length p.ec, slots := [60], reads := [0] },
                  { val := fun _ => iV (pl : Int), slots := [10] },
                  { val := fun _ => .slice a1 pl p.ec, slots := [61, 62] },
                  { val := fun _ => .slice none 0 0, slots := [59, 63] },
                  { val := fun _ => iV m, slots := [11] },
                  { val := fun _ => iV m, slots := [11] },
                  { val := fun _ => .int .u8 x, slots := [2] },
                  { val := fun _ => iV x, slots := [67] },
                  { val := fun _ => iV d, slots := [68] },
                  { val := fun _ => iV mh, slots := [66, 69] },
                  { val := fun _ => .agg #[iV 1, iV 0, iV m, iV mh], slots := [65, 70] },
                  { names := [14], val := fun l => .slice (some ⟨(l.getD 0 0), 0, none⟩) 1 1, upd := [(14, fun l => aO #[iV 1, iV 0, iV m, iV mh] 55)], news := [14], slots := [71] },
                  { names := [15, 1000015], val := fun l => .slice (some ⟨(l.getD 0 0), 0, none⟩) 1 (capN 1 (l.getD 1 0)), upd := [(15, fun l => cO ((([(1, 0, m, mh)] : List Ev)).flatMap evR ++ (spareN ((.agg #[iV 0, iV 0, iV 0, iV 0])) 1 (l.getD 1 0))) 55)], news := [15, 1000015], slots := [64, 72], reads := [14] },
                  { val := fun _ => .pointer (some ⟨b1, 4, none⟩), slots := [4] },
                  { val := fun _ => .slice p.ea p.es.length p.ec, slots := [74], reads := [0] },
                  { val := fun _ => iV (pl : Int), slots := [10] },
                  { val := fun _ => .slice a2 (p.es.length - pl) c2, slots := [75, 76] },
                  { names := [15, 1000015], val := fun l => .slice (some ⟨(l.getD 0 0), 0, none⟩) 1 (capN 1 (l.getD 1 0)), slots := [73, 77] },
                  { names := [15, 1000015], val := fun l => .slice (some ⟨(l.getD 0 0), 0, none⟩) 1 (capN 1 (l.getD 1 0)), slots := [78] }] [[], [], [1], [], [1, 2, 3], [0, 1, 2, 3, 4], [], [], [], [8], [8, 9], [7, 8, 9, 10], [0, 1, 2, 3, 4, 5, 6, 7, 8, 9, 10, 11], [0, 1, 2, 3, 4, 5, 6, 7, 8, 9, 10, 11, 12], [0, 1, 2, 3, 4, 5, 6, 7, 8, 9, 10, 11, 12, 13], [], [15], [], [15, 16, 17], [0, 1, 2, 3, 4, 5, 6, 7, 8, 9, 10, 11, 12, 13, 14, 15, 16, 17, 18], [0, 1, 2, 3, 4, 5, 6, 7, 8, 9, 10, 11, 12, 13, 14, 15, 16, 17, 18, 19]] (by kernel_rfl) (by kernel_rfl) (by kernel_rfl) (by kernel_rfl) [1, 3, 4, 8, 10, 12] [0, 15] (by kernel_rfl)
                  ⟨⟨⟨⟨⟨⟨⟨⟨⟨⟨⟨⟨⟨⟨⟨⟨⟨⟨⟨⟨⟨trivial,
                  tri_quietW (fun β => []) [] [] (fun β => []) (by kernel_rfl) (fun β extra => by kernel_rfl) (by kernel_rfl) (fun β => trivial)⟩,
                  tri_quietW (fun β => []) [] [] (fun β => []) (by kernel_rfl) (fun β extra => by kernel_rfl) (by kernel_rfl) (fun β => trivial)⟩,
                  tri_quietW (fun β => []) [0] [0] (fun β => [(pA b1, pA b1)]) (by kernel_rfl) (fun β extra => by kernel_rfl) (by kernel_rfl) (fun β => ⟨rfl, trivial⟩)⟩,
                  tri_quietW (fun β => []) [] [] (fun β => []) (by kernel_rfl) (fun β extra => by kernel_rfl) (by kernel_rfl) (fun β => trivial)⟩,
                  tri_vVW (fun β => .slice a1 pl p.ec) (fun β => by kernel_rfl) (fun β => (Instr.sliceAt 24 (.slice p.ea p.es.length p.ec) none (some (iV (pl : Int))) none >>= fun v => pure (Next.value v))) (by kernel_rfl) (fun β extra => by kernel_rfl) (fun β => by kernel_rfl) (fun β w1 k1 h1 => hs1 w1)⟩,
                  tri_vVW (fun β => .slice none 0 0) (fun β => by kernel_rfl) (fun β => appSem 24 24 (.slice none 0 0) (.slice a1 pl p.ec)) (by kernel_rfl) (fun β extra => by kernel_rfl) (fun β => by kernel_rfl) (fun β w1 k1 h1 => app_zero (t := 24) (ty := 24) (e := 55) (n := 4) (by kernel_rfl) (by kernel_rfl) _ _ 0 0 pl p.ec (by omega) (Nat.le_refl _) w1)⟩,
                  tri_quietW (fun β => []) [] [] (fun β => []) (by kernel_rfl) (fun β extra => by kernel_rfl) (by kernel_rfl) (fun β => trivial)⟩,
                  tri_quietW (fun β => []) [] [] (fun β => []) (by kernel_rfl) (fun β extra => by kernel_rfl) (by kernel_rfl) (fun β => trivial)⟩,
                  tri_quietW (fun β => []) [] [] (fun β => []) (by kernel_rfl) (fun β extra => by kernel_rfl) (by kernel_rfl) (fun β => trivial)⟩,
                  tri_quietW (fun β => [(68, iV x)]) [] [] (fun β => [(iV (IntKind.i64.wrap x), iV x)]) (by kernel_rfl) (fun β extra => by kernel_rfl) (by kernel_rfl) (fun β => ⟨(wr (by omega) (by omega)), trivial⟩)⟩,
                  tri_quietW (fun β => [(69, iV d)]) [] [] (fun β => [(iV (Int.tmod x 40), iV d)]) (by kernel_rfl) (fun β extra => by kernel_rfl) (by kernel_rfl) (fun β => ⟨((rm 40 (by omega)).trans (io hd)), trivial⟩)⟩,
                  tri_quietW (fun β => [(70, iV mh)]) [] [] (fun β => [(iV (IntKind.i64.wrap (m + d)), iV mh)]) (by kernel_rfl) (fun β extra => by kernel_rfl) (by kernel_rfl) (fun β => ⟨((wr (by omega) (by omega)).trans (io hmh)), trivial⟩)⟩,
                  tri_callVW (fun β => .agg #[iV 1, iV 0, iV m, iV mh]) (fun β => by kernel_rfl) 35 (fun β => #[iV m, iV mh]) (by kernel_rfl) (fun β extra => by kernel_rfl) (fun β => by kernel_rfl) (fun β w1 k1 h1 => read_any m mh w1)⟩,
                  tri_newW 14 (fun β => aO #[iV 1, iV 0, iV m, iV mh] 55) (fun β b => sV b 1 1) [0] (by kernel_rfl) (fun β extra b => by kernel_rfl) (by kernel_rfl) (fun β b => by kernel_rfl) (fun β b => by kernel_rfl) (fun β b => by kernel_rfl)⟩,
                  tri_grow_noneW (t := 24) (ty := 24) (e := 55) (n := 4) (z := (.agg #[iV 0, iV 0, iV 0, iV 0])) (by kernel_rfl) (by kernel_rfl) (by kernel_rfl) rfl (by kernel_rfl) evR evR_len 15 1000015 rfl rfl (fun β => ⟨(β 14), 0, none⟩) 1 1 ([(1, 0, m, mh)] : List Ev) (by first | rfl | omega | (simp; done) | (simp; omega)) (by omega) (by omega) (by kernel_rfl) (fun β extra => by kernel_rfl) (fun β b x => by kernel_rfl) (fun β b x => by kernel_rfl) (fun β b x => by kernel_rfl) (fun β w1 k1 h1 jq uq hu => by rw [add_none, Nat.zero_add]; exact cells_of_heap (h1 ((β 14), aO #[iV 1, iV 0, iV m, iV mh] 55) (List.mem_of_getElem? (i := 0) (by kernel_rfl))) jq uq hu)⟩,
                  tri_quietW (fun β => []) [] [] (fun β => []) (by kernel_rfl) (fun β extra => by kernel_rfl) (by kernel_rfl) (fun β => trivial)⟩,
                  tri_quietW (fun β => []) [0] [0] (fun β => [(pA b1, pA b1)]) (by kernel_rfl) (fun β extra => by kernel_rfl) (by kernel_rfl) (fun β => ⟨rfl, trivial⟩)⟩,
                  tri_quietW (fun β => []) [] [] (fun β => []) (by kernel_rfl) (fun β extra => by kernel_rfl) (by kernel_rfl) (fun β => trivial)⟩,
                  tri_vVW (fun β => .slice a2 (p.es.length - pl) c2) (fun β => by kernel_rfl) (fun β => (Instr.sliceAt 24 (.slice p.ea p.es.length p.ec) (some (iV (pl : Int))) none none >>= fun v => pure (Next.value v))) (by kernel_rfl) (fun β extra => by kernel_rfl) (fun β => by kernel_rfl) (fun β w1 k1 h1 => hs2 w1)⟩,
                  tri_vVW (fun β => .slice (some ⟨(β 15), 0, none⟩) 1 (capN 1 (β 1000015))) (fun β => by kernel_rfl) (fun β => appSem 24 24 (.slice (some ⟨(β 15), 0, none⟩) 1 (capN 1 (β 1000015))) (.slice a2 (p.es.length - pl) c2)) (by kernel_rfl) (fun β extra => by kernel_rfl) (fun β => by kernel_rfl) (fun β w1 k1 h1 => app_zero (t := 24) (ty := 24) (e := 55) (n := 4) (by kernel_rfl) (by kernel_rfl) _ _ 1 (capN 1 (β 1000015)) (p.es.length - pl) c2 (by omega) ((by have := capN_ge (l := 1) (by simp only [maxLen]; omega) (β 1000015); omega)) w1)⟩,
                  tri_quietW (fun β => []) [] [] (fun β => []) (by kernel_rfl) (fun β extra => by kernel_rfl) (by kernel_rfl) (fun β => trivial)⟩
                  (fun β => ⟨[(1, .int .u8 z), (3, .int .u16 y), (4, pA b1), (8, .bool false), (10, iV (pl : Int)), (12, .slice (some ⟨(β 15), 0, none⟩) 1 (capN 1 (β 1000015)))], [(b1, aO #[iV p.ll, iV p.lh, iV p.ul, iV p.uh, .slice p.ea p.es.length p.ec] 26), ((β 15), cO ((([(1, 0, m, mh)] : List Ev)).flatMap evR ++ (spareN ((.agg #[iV 0, iV 0, iV 0, iV 0])) 1 (β 1000015))) 55)]⟩) (fun β => by kernel_rfl) (fun β2 => ?_)
        refine run_ge0 1 (β2 15) (cO ((([(1, 0, m, mh)] : List Ev)).flatMap evR ++ (spareN ((.agg #[iV 0, iV 0, iV 0, iV 0])) 1 (β2 1000015))) 55) (by kernel_rfl) (fun _ h => h) (fun hge3 => ?_)
        refine run_auto [] 1 [] [] [1, 3, 4, 8, 10, 12] [1, 0] (st' := ⟨[(1, .int .u8 z), (3, .int .u16 y), (4, pA b1), (8, .bool false), (10, iV (pl : Int)), (12, .slice (some ⟨(β2 15), 0, none⟩) 1 (capN 1 (β2 1000015)))], [((β2 15), cO ((([(1, 0, m, mh)] : List Ev)).flatMap evR ++ (spareN ((.agg #[iV 0, iV 0, iV 0, iV 0])) 1 (β2 1000015))) 55), (b1, aO #[iV p.ll, iV p.lh, iV p.ul, iV p.uh, .slice p.ea p.es.length p.ec] 26)]⟩) (acc := []) (by kernel_rfl) (by kernel_rfl) trivial ?_
        exact run_eqK (by kernel_rfl) (more8 p z y m mh r pl b1 (β2 15) (capN 1 (β2 1000015)) 1 ([(1, 0, m, mh)] : List Ev) (spareN ((.agg #[iV 0, iV 0, iV 0, iV 0])) 1 (β2 1000015)) w hp hok z1 z2 y1 y2 hr hmr (by omega) (by omega) hpln (by rw [hes]; simp) (by simp; try omega))
      | true =>
        have hp3 := of_decide_eq_true hd3
        exfalso
        omega
    | true =>
      have hp2 := of_decide_eq_true hd2
      obtain ⟨be, oe, hbe, hce⟩ := hp.ev (by intro h; rw [h] at hp2; cases hp2)
      cases hd3 : (decide (0 < pl)) with
      | false =>
        have hp3 := of_decide_eq_false hd3
        refine drawW 21 [{ val := fun _ => .slice none 0 0, slots := [12] },
                  { val := fun _ => .pointer (some ⟨b1, 4, none⟩), slots := [4] },
                  { val := fun _ => .slice p.ea p.es.length p.ec, slots := [60], reads := [0] },
                  { val := fun _ => iV (pl : Int), slots := [10] },
                  { val := fun _ => .slice a1 pl p.ec, slots := [61, 62] },
                  { val := fun _ => .slice none 0 0, slots := [59, 63] },
                  { val := fun _ => iV m, slots := [11] },
                  { val := fun _ => iV m, slots := [11] },
                  { val := fun _ => .int .u8 x, slots := [2] },
                  { val := fun _ => iV x, slots := [67] },
                  { val := fun _ => iV d, slots := [68] },
                  { val := fun _ => iV mh, slots := [66, 69] },
                  { val := fun _ => .agg #[iV 1, iV 0, iV m, iV mh], slots := [65, 70] },
                  { names := [14], val := fun l => .slice (some ⟨(l.getD 0 0), 0, none⟩) 1 1, upd := [(14, fun l => aO #[iV 1, iV 0, iV m, iV mh] 55)], news := [14], slots := [71] },
                  { names := [15, 1000015], val := fun l => .slice (some ⟨(l.getD 0 0), 0, none⟩) 1 (capN 1 (l.getD 1 0)), upd := [(15, fun l => cO ((([(1, 0, m, mh)] : List Ev)).flatMap evR ++ (spareN ((.agg #[iV 0, iV 0, iV 0, iV 0])) 1 (l.getD 1 0))) 55)], news := [15, 1000015], slots := [64, 72], reads := [14] },
                  { val := fun _ => .pointer (some ⟨b1, 4, none⟩), slots := [4] },
                  { val := fun _ => .slice p.ea p.es.length p.ec, slots := [74], reads := [0] },
                  { val := fun _ => iV (pl : Int), slots := [10] },
                  { val := fun _ => .slice (some (cutA be oe pl p.ec 4)) (p.es.length - pl) (p.ec - pl), slots := [75, 76] },
                  { names := [20, 1000015, 1000020], val := fun l => .slice (some ⟨(l.getD 0 0), 0, none⟩) (1 + (p.es.length - pl)) (capE (1 + (p.es.length - pl)) (capN 1 (l.getD 1 0)) (l.getD 2 0)), upd := [(20, fun l => cO (((([(1, 0, m, mh)] : List Ev)) ++ (p.es.drop pl : List Ev)).flatMap evR ++ (spE ((.agg #[iV 0, iV 0, iV 0, iV 0])) (1 + (p.es.length - pl)) (capN 1 (l.getD 1 0)) ((p.es.length - pl) * 4) (spareN ((.agg #[iV 0, iV 0, iV 0, iV 0])) 1 (l.getD 1 0)) (l.getD 2 0))) 55)], news := [20, 1000020], slots := [73, 77], reads := [15], takes := [15] },
                  { names := [20, 1000015, 1000020], val := fun l => .slice (some ⟨(l.getD 0 0), 0, none⟩) (1 + (p.es.length - pl)) (capE (1 + (p.es.length - pl)) (capN 1 (l.getD 1 0)) (l.getD 2 0)), slots := [78] }] [[], [], [1], [], [1, 2, 3], [0, 1, 2, 3, 4], [], [], [], [8], [8, 9], [7, 8, 9, 10], [0, 1, 2, 3, 4, 5, 6, 7, 8, 9, 10, 11], [0, 1, 2, 3, 4, 5, 6, 7, 8, 9, 10, 11, 12], [0, 1, 2, 3, 4, 5, 6, 7, 8, 9, 10, 11, 12, 13], [], [15], [], [15, 16, 17], [0, 1, 2, 3, 4, 5, 6, 7, 8, 9, 10, 11, 12, 13, 14, 15, 16, 17, 18], [0, 1, 2, 3, 4, 5, 6, 7, 8, 9, 10, 11, 12, 13, 14, 15, 16, 17, 18, 19]] (by kernel_rfl) (by kernel_rfl) (by kernel_rfl) (by kernel_rfl) [1, 3, 4, 8, 10, 12] [0, 20] (by kernel_rfl)
                  ⟨⟨⟨⟨⟨⟨⟨⟨⟨⟨⟨⟨⟨⟨⟨⟨⟨⟨⟨⟨⟨trivial,
                  tri_quietW (fun β => []) [] [] (fun β => []) (by kernel_rfl) (fun β extra => by kernel_rfl) (by kernel_rfl) (fun β => trivial)⟩,
                  tri_quietW (fun β => []) [] [] (fun β => []) (by kernel_rfl) (fun β extra => by kernel_rfl) (by kernel_rfl) (fun β => trivial)⟩,
                  tri_quietW (fun β => []) [0] [0] (fun β => [(pA b1, pA b1)]) (by kernel_rfl) (fun β extra => by kernel_rfl) (by kernel_rfl) (fun β => ⟨rfl, trivial⟩)⟩,
                  tri_quietW (fun β => []) [] [] (fun β => []) (by kernel_rfl) (fun β extra => by kernel_rfl) (by kernel_rfl) (fun β => trivial)⟩,
                  tri_vVW (fun β => .slice a1 pl p.ec) (fun β => by kernel_rfl) (fun β => (Instr.sliceAt 24 (.slice p.ea p.es.length p.ec) none (some (iV (pl : Int))) none >>= fun v => pure (Next.value v))) (by kernel_rfl) (fun β extra => by kernel_rfl) (fun β => by kernel_rfl) (fun β w1 k1 h1 => hs1 w1)⟩,
                  tri_vVW (fun β => .slice none 0 0) (fun β => by kernel_rfl) (fun β => appSem 24 24 (.slice none 0 0) (.slice a1 pl p.ec)) (by kernel_rfl) (fun β extra => by kernel_rfl) (fun β => by kernel_rfl) (fun β w1 k1 h1 => app_zero (t := 24) (ty := 24) (e := 55) (n := 4) (by kernel_rfl) (by kernel_rfl) _ _ 0 0 pl p.ec (by omega) (Nat.le_refl _) w1)⟩,
                  tri_quietW (fun β => []) [] [] (fun β => []) (by kernel_rfl) (fun β extra => by kernel_rfl) (by kernel_rfl) (fun β => trivial)⟩,
                  tri_quietW (fun β => []) [] [] (fun β => []) (by kernel_rfl) (fun β extra => by kernel_rfl) (by kernel_rfl) (fun β => trivial)⟩,
                  tri_quietW (fun β => []) [] [] (fun β => []) (by kernel_rfl) (fun β extra => by kernel_rfl) (by kernel_rfl) (fun β => trivial)⟩,
                  tri_quietW (fun β => [(68, iV x)]) [] [] (fun β => [(iV (IntKind.i64.wrap x), iV x)]) (by kernel_rfl) (fun β extra => by kernel_rfl) (by kernel_rfl) (fun β => ⟨(wr (by omega) (by omega)), trivial⟩)⟩,
                  tri_quietW (fun β => [(69, iV d)]) [] [] (fun β => [(iV (Int.tmod x 40), iV d)]) (by kernel_rfl) (fun β extra => by kernel_rfl) (by kernel_rfl) (fun β => ⟨((rm 40 (by omega)).trans (io hd)), trivial⟩)⟩,
                  tri_quietW (fun β => [(70, iV mh)]) [] [] (fun β => [(iV (IntKind.i64.wrap (m + d)), iV mh)]) (by kernel_rfl) (fun β extra => by kernel_rfl) (by kernel_rfl) (fun β => ⟨((wr (by omega) (by omega)).trans (io hmh)), trivial⟩)⟩,
                  tri_callVW (fun β => .agg #[iV 1, iV 0, iV m, iV mh]) (fun β => by kernel_rfl) 35 (fun β => #[iV m, iV mh]) (by kernel_rfl) (fun β extra => by kernel_rfl) (fun β => by kernel_rfl) (fun β w1 k1 h1 => read_any m mh w1)⟩,
                  tri_newW 14 (fun β => aO #[iV 1, iV 0, iV m, iV mh] 55) (fun β b => sV b 1 1) [0] (by kernel_rfl) (fun β extra b => by kernel_rfl) (by kernel_rfl) (fun β b => by kernel_rfl) (fun β b => by kernel_rfl) (fun β b => by kernel_rfl)⟩,
                  tri_grow_noneW (t := 24) (ty := 24) (e := 55) (n := 4) (z := (.agg #[iV 0, iV 0, iV 0, iV 0])) (by kernel_rfl) (by kernel_rfl) (by kernel_rfl) rfl (by kernel_rfl) evR evR_len 15 1000015 rfl rfl (fun β => ⟨(β 14), 0, none⟩) 1 1 ([(1, 0, m, mh)] : List Ev) (by first | rfl | omega | (simp; done) | (simp; omega)) (by omega) (by omega) (by kernel_rfl) (fun β extra => by kernel_rfl) (fun β b x => by kernel_rfl) (fun β b x => by kernel_rfl) (fun β b x => by kernel_rfl) (fun β w1 k1 h1 jq uq hu => by rw [add_none, Nat.zero_add]; exact cells_of_heap (h1 ((β 14), aO #[iV 1, iV 0, iV m, iV mh] 55) (List.mem_of_getElem? (i := 0) (by kernel_rfl))) jq uq hu)⟩,
                  tri_quietW (fun β => []) [] [] (fun β => []) (by kernel_rfl) (fun β extra => by kernel_rfl) (by kernel_rfl) (fun β => trivial)⟩,
                  tri_quietW (fun β => []) [0] [0] (fun β => [(pA b1, pA b1)]) (by kernel_rfl) (fun β extra => by kernel_rfl) (by kernel_rfl) (fun β => ⟨rfl, trivial⟩)⟩,
                  tri_quietW (fun β => []) [] [] (fun β => []) (by kernel_rfl) (fun β extra => by kernel_rfl) (by kernel_rfl) (fun β => trivial)⟩,
                  tri_vVW (fun β => .slice (some (cutA be oe pl p.ec 4)) (p.es.length - pl) (p.ec - pl)) (fun β => by kernel_rfl) (fun β => (Instr.sliceAt 24 (.slice p.ea p.es.length p.ec) (some (iV (pl : Int))) none none >>= fun v => pure (Next.value v))) (by kernel_rfl) (fun β extra => by kernel_rfl) (fun β => by kernel_rfl) (fun β w1 k1 h1 => (by rw [hbe]; exact cut_l (P := Tryz.prog) (t := 24) (e := 55) (n := 4) (by kernel_rfl) (by kernel_rfl) be (oe) p.es.length p.ec w1 .i64 pl (by omega)))⟩,
                  tri_app (t := 24) (ty := 24) (e := 55) (n := 4) (z := (.agg #[iV 0, iV 0, iV 0, iV 0])) (by kernel_rfl) (by kernel_rfl) (by kernel_rfl) rfl (by kernel_rfl) evR evR_len evR_one 20 1000020 15 rfl rfl (fun β => (β 15)) (fun β => (cutA be oe pl p.ec 4)) (fun β => []) 1 (p.es.length - pl) (p.ec - pl) (fun β => (capN 1 (β 1000015))) (([(1, 0, m, mh)] : List Ev)) (p.es.drop pl : List Ev) (fun β => (spareN ((.agg #[iV 0, iV 0, iV 0, iV 0])) 1 (β 1000015))) (by first | rfl | omega | (simp; done) | (simp; omega)) (by first | rfl | omega | (simp; done) | (simp; omega)) (fun β => (grow_len (l := 1) evR_len (by first | rfl | omega | (simp; done) | (simp; omega)) (by simp only [maxLen]; omega) _ rfl _)) (by omega) (by kernel_rfl) (by kernel_rfl) (fun β extra => by kernel_rfl) (fun β => by kernel_rfl) (fun β b x => by kernel_rfl) (fun β b x => by kernel_rfl) (fun β b x => by kernel_rfl) (fun β => by kernel_rfl) (fun β => (fun w1 k1 h1 jq uq hu => drop_src hp hcap hbe pl k1 jq uq hu))⟩,
                  tri_quietW (fun β => []) [] [] (fun β => []) (by kernel_rfl) (fun β extra => by kernel_rfl) (by kernel_rfl) (fun β => trivial)⟩
                  (fun β => ⟨[(1, .int .u8 z), (3, .int .u16 y), (4, pA b1), (8, .bool false), (10, iV (pl : Int)), (12, .slice (some ⟨(β 20), 0, none⟩) (1 + (p.es.length - pl)) (capE (1 + (p.es.length - pl)) (capN 1 (β 1000015)) (β 1000020)))], [(b1, aO #[iV p.ll, iV p.lh, iV p.ul, iV p.uh, .slice p.ea p.es.length p.ec] 26), ((β 20), cO (((([(1, 0, m, mh)] : List Ev)) ++ (p.es.drop pl : List Ev)).flatMap evR ++ (spE ((.agg #[iV 0, iV 0, iV 0, iV 0])) (1 + (p.es.length - pl)) (capN 1 (β 1000015)) ((p.es.length - pl) * 4) (spareN ((.agg #[iV 0, iV 0, iV 0, iV 0])) 1 (β 1000015)) (β 1000020))) 55)]⟩) (fun β => by kernel_rfl) (fun β2 => ?_)
        refine run_ge0 1 (β2 20) (cO (((([(1, 0, m, mh)] : List Ev)) ++ (p.es.drop pl : List Ev)).flatMap evR ++ (spE ((.agg #[iV 0, iV 0, iV 0, iV 0])) (1 + (p.es.length - pl)) (capN 1 (β2 1000015)) ((p.es.length - pl) * 4) (spareN ((.agg #[iV 0, iV 0, iV 0, iV 0])) 1 (β2 1000015)) (β2 1000020))) 55) (by kernel_rfl) (fun _ h => h) (fun hge3 => ?_)
        refine run_auto [] 1 [] [] [1, 3, 4, 8, 10, 12] [1, 0] (st' := ⟨[(1, .int .u8 z), (3, .int .u16 y), (4, pA b1), (8, .bool false), (10, iV (pl : Int)), (12, .slice (some ⟨(β2 20), 0, none⟩) (1 + (p.es.length - pl)) (capE (1 + (p.es.length - pl)) (capN 1 (β2 1000015)) (β2 1000020)))], [((β2 20), cO (((([(1, 0, m, mh)] : List Ev)) ++ (p.es.drop pl : List Ev)).flatMap evR ++ (spE ((.agg #[iV 0, iV 0, iV 0, iV 0])) (1 + (p.es.length - pl)) (capN 1 (β2 1000015)) ((p.es.length - pl) * 4) (spareN ((.agg #[iV 0, iV 0, iV 0, iV 0])) 1 (β2 1000015)) (β2 1000020))) 55), (b1, aO #[iV p.ll, iV p.lh, iV p.ul, iV p.uh, .slice p.ea p.es.length p.ec] 26)]⟩) (acc := []) (by kernel_rfl) (by kernel_rfl) trivial ?_
        exact run_eqK (by kernel_rfl) (more8 p z y m mh r pl b1 (β2 20) (capE (1 + (p.es.length - pl)) (capN 1 (β2 1000015)) (β2 1000020)) (1 + (p.es.length - pl)) ((([(1, 0, m, mh)] : List Ev)) ++ (p.es.drop pl : List Ev)) (spE ((.agg #[iV 0, iV 0, iV 0, iV 0])) (1 + (p.es.length - pl)) (capN 1 (β2 1000015)) ((p.es.length - pl) * 4) (spareN ((.agg #[iV 0, iV 0, iV 0, iV 0])) 1 (β2 1000015)) (β2 1000020)) w hp hok z1 z2 y1 y2 hr hmr (by omega) (by omega) hpln (by rw [show pl = 0 by omega]; rfl) (by simp; try omega))
      | true =>
        have hp3 := of_decide_eq_true hd3
        refine drawW 21 [{ val := fun _ => .slice none 0 0, slots := [12] },
                  { val := fun _ => .pointer (some ⟨b1, 4, none⟩), slots := [4] },
                  { val := fun _ => .slice p.ea p.es.length p.ec, slots := [60], reads := [0] },
                  { val := fun _ => iV (pl : Int), slots := [10] },
                  { val := fun _ => .slice (some ⟨be, oe, none⟩) pl p.ec, slots := [61, 62] },
                  { names := [6, 1000006], val := fun l => .slice (some ⟨(l.getD 0 0), 0, none⟩) pl (capN pl (l.getD 1 0)), upd := [(6, fun l => cO (((p.es.take pl : List Ev)).flatMap evR ++ (spareN ((.agg #[iV 0, iV 0, iV 0, iV 0])) pl (l.getD 1 0))) 55)], news := [6, 1000006], slots := [59, 63] },
                  { val := fun _ => iV m, slots := [11] },
                  { val := fun _ => iV m, slots := [11] },
                  { val := fun _ => .int .u8 x, slots := [2] },
                  { val := fun _ => iV x, slots := [67] },
                  { val := fun _ => iV d, slots := [68] },
                  { val := fun _ => iV mh, slots := [66, 69] },
                  { val := fun _ => .agg #[iV 1, iV 0, iV m, iV mh], slots := [65, 70] },
                  { names := [14], val := fun l => .slice (some ⟨(l.getD 0 0), 0, none⟩) 1 1, upd := [(14, fun l => aO #[iV 1, iV 0, iV m, iV mh] 55)], news := [14], slots := [71] },
                  { names := [15, 1000006, 1000015], val := fun l => .slice (some ⟨(l.getD 0 0), 0, none⟩) (pl + 1) (capE (pl + 1) (capN pl (l.getD 1 0)) (l.getD 2 0)), upd := [(15, fun l => cO ((((p.es.take pl : List Ev)) ++ ([(1, 0, m, mh)] : List Ev)).flatMap evR ++ (spE ((.agg #[iV 0, iV 0, iV 0, iV 0])) (pl + 1) (capN pl (l.getD 1 0)) (1 * 4) (spareN ((.agg #[iV 0, iV 0, iV 0, iV 0])) pl (l.getD 1 0)) (l.getD 2 0))) 55)], news := [15, 1000015], slots := [64, 72], reads := [6, 14], takes := [6] },
                  { val := fun _ => .pointer (some ⟨b1, 4, none⟩), slots := [4] },
                  { val := fun _ => .slice p.ea p.es.length p.ec, slots := [74], reads := [0] },
                  { val := fun _ => iV (pl : Int), slots := [10] },
                  { val := fun _ => .slice (some (cutA be oe pl p.ec 4)) (p.es.length - pl) (p.ec - pl), slots := [75, 76] },
                  { names := [20, 1000006, 1000015, 1000020], val := fun l => .slice (some ⟨(l.getD 0 0), 0, none⟩) (pl + 1 + (p.es.length - pl)) (capE (pl + 1 + (p.es.length - pl)) (capE (pl + 1) (capN pl (l.getD 1 0)) (l.getD 2 0)) (l.getD 3 0)), upd := [(20, fun l => cO (((((p.es.take pl : List Ev)) ++ ([(1, 0, m, mh)] : List Ev)) ++ (p.es.drop pl : List Ev)).flatMap evR ++ (spE ((.agg #[iV 0, iV 0, iV 0, iV 0])) (pl + 1 + (p.es.length - pl)) (capE (pl + 1) (capN pl (l.getD 1 0)) (l.getD 2 0)) ((p.es.length - pl) * 4) (spE ((.agg #[iV 0, iV 0, iV 0, iV 0])) (pl + 1) (capN pl (l.getD 1 0)) (1 * 4) (spareN ((.agg #[iV 0, iV 0, iV 0, iV 0])) pl (l.getD 1 0)) (l.getD 2 0)) (l.getD 3 0))) 55)], news := [20, 1000020], slots := [73, 77], reads := [15], takes := [15] },
                  { names := [20, 1000006, 1000015, 1000020], val := fun l => .slice (some ⟨(l.getD 0 0), 0, none⟩) (pl + 1 + (p.es.length - pl)) (capE (pl + 1 + (p.es.length - pl)) (capE (pl + 1) (capN pl (l.getD 1 0)) (l.getD 2 0)) (l.getD 3 0)), slots := [78] }] [[], [], [1], [], [1, 2, 3], [0, 1, 2, 3, 4], [], [], [], [8], [8, 9], [7, 8, 9, 10], [0, 1, 2, 3, 4, 5, 6, 7, 8, 9, 10, 11], [0, 1, 2, 3, 4, 5, 6, 7, 8, 9, 10, 11, 12], [0, 1, 2, 3, 4, 5, 6, 7, 8, 9, 10, 11, 12, 13], [], [15], [], [15, 16, 17], [0, 1, 2, 3, 4, 5, 6, 7, 8, 9, 10, 11, 12, 13, 14, 15, 16, 17, 18], [0, 1, 2, 3, 4, 5, 6, 7, 8, 9, 10, 11, 12, 13, 14, 15, 16, 17, 18, 19]] (by kernel_rfl) (by kernel_rfl) (by kernel_rfl) (by kernel_rfl) [1, 3, 4, 8, 10, 12] [0, 20] (by kernel_rfl)
                  ⟨⟨⟨⟨⟨⟨⟨⟨⟨⟨⟨⟨⟨⟨⟨⟨⟨⟨⟨⟨⟨trivial,
                  tri_quietW (fun β => []) [] [] (fun β => []) (by kernel_rfl) (fun β extra => by kernel_rfl) (by kernel_rfl) (fun β => trivial)⟩,
                  tri_quietW (fun β => []) [] [] (fun β => []) (by kernel_rfl) (fun β extra => by kernel_rfl) (by kernel_rfl) (fun β => trivial)⟩,
                  tri_quietW (fun β => []) [0] [0] (fun β => [(pA b1, pA b1)]) (by kernel_rfl) (fun β extra => by kernel_rfl) (by kernel_rfl) (fun β => ⟨rfl, trivial⟩)⟩,
                  tri_quietW (fun β => []) [] [] (fun β => []) (by kernel_rfl) (fun β extra => by kernel_rfl) (by kernel_rfl) (fun β => trivial)⟩,
                  tri_vVW (fun β => .slice (some ⟨be, oe, none⟩) pl p.ec) (fun β => by kernel_rfl) (fun β => (Instr.sliceAt 24 (.slice p.ea p.es.length p.ec) none (some (iV (pl : Int))) none >>= fun v => pure (Next.value v))) (by kernel_rfl) (fun β extra => by kernel_rfl) (fun β => by kernel_rfl) (fun β w1 k1 h1 => (by rw [hbe]; exact cut_h (P := Tryz.prog) (t := 24) (e := 55) (n := 4) (by kernel_rfl) (by kernel_rfl) be (oe) p.es.length p.ec w1 .i64 pl (by omega)))⟩,
                  tri_grow_noneW (t := 24) (ty := 24) (e := 55) (n := 4) (z := (.agg #[iV 0, iV 0, iV 0, iV 0])) (by kernel_rfl) (by kernel_rfl) (by kernel_rfl) rfl (by kernel_rfl) evR evR_len 6 1000006 rfl rfl (fun β => ⟨be, oe, none⟩) pl p.ec (p.es.take pl : List Ev) (by first | rfl | omega | (simp; done) | (simp; omega)) (by omega) (by omega) (by kernel_rfl) (fun β extra => by kernel_rfl) (fun β b x => by kernel_rfl) (fun β b x => by kernel_rfl) (fun β b x => by kernel_rfl) (fun β => (fun w1 k1 h1 jq uq hu => take_src hp hbe pl k1 jq uq hu))⟩,
                  tri_quietW (fun β => []) [] [] (fun β => []) (by kernel_rfl) (fun β extra => by kernel_rfl) (by kernel_rfl) (fun β => trivial)⟩,
                  tri_quietW (fun β => []) [] [] (fun β => []) (by kernel_rfl) (fun β extra => by kernel_rfl) (by kernel_rfl) (fun β => trivial)⟩,
                  tri_quietW (fun β => []) [] [] (fun β => []) (by kernel_rfl) (fun β extra => by kernel_rfl) (by kernel_rfl) (fun β => trivial)⟩,
                  tri_quietW (fun β => [(68, iV x)]) [] [] (fun β => [(iV (IntKind.i64.wrap x), iV x)]) (by kernel_rfl) (fun β extra => by kernel_rfl) (by kernel_rfl) (fun β => ⟨(wr (by omega) (by omega)), trivial⟩)⟩,
                  tri_quietW (fun β => [(69, iV d)]) [] [] (fun β => [(iV (Int.tmod x 40), iV d)]) (by kernel_rfl) (fun β extra => by kernel_rfl) (by kernel_rfl) (fun β => ⟨((rm 40 (by omega)).trans (io hd)), trivial⟩)⟩,
                  tri_quietW (fun β => [(70, iV mh)]) [] [] (fun β => [(iV (IntKind.i64.wrap (m + d)), iV mh)]) (by kernel_rfl) (fun β extra => by kernel_rfl) (by kernel_rfl) (fun β => ⟨((wr (by omega) (by omega)).trans (io hmh)), trivial⟩)⟩,
                  tri_callVW (fun β => .agg #[iV 1, iV 0, iV m, iV mh]) (fun β => by kernel_rfl) 35 (fun β => #[iV m, iV mh]) (by kernel_rfl) (fun β extra => by kernel_rfl) (fun β => by kernel_rfl) (fun β w1 k1 h1 => read_any m mh w1)⟩,
                  tri_newW 14 (fun β => aO #[iV 1, iV 0, iV m, iV mh] 55) (fun β b => sV b 1 1) [0] (by kernel_rfl) (fun β extra b => by kernel_rfl) (by kernel_rfl) (fun β b => by kernel_rfl) (fun β b => by kernel_rfl) (fun β b => by kernel_rfl)⟩,
                  tri_app (t := 24) (ty := 24) (e := 55) (n := 4) (z := (.agg #[iV 0, iV 0, iV 0, iV 0])) (by kernel_rfl) (by kernel_rfl) (by kernel_rfl) rfl (by kernel_rfl) evR evR_len evR_one 15 1000015 6 rfl rfl (fun β => (β 6)) (fun β => ⟨(β 14), 0, none⟩) (fun β => [((β 14), aO #[iV 1, iV 0, iV m, iV mh] 55)]) pl 1 1 (fun β => (capN pl (β 1000006))) ((p.es.take pl : List Ev)) ([(1, 0, m, mh)] : List Ev) (fun β => (spareN ((.agg #[iV 0, iV 0, iV 0, iV 0])) pl (β 1000006))) (by first | rfl | omega | (simp; done) | (simp; omega)) (by first | rfl | omega | (simp; done) | (simp; omega)) (fun β => (grow_len (l := pl) evR_len (by first | rfl | omega | (simp; done) | (simp; omega)) (by simp only [maxLen]; omega) _ rfl _)) (by omega) (by kernel_rfl) (by kernel_rfl) (fun β extra => by kernel_rfl) (fun β => by kernel_rfl) (fun β b x => by kernel_rfl) (fun β b x => by kernel_rfl) (fun β b x => by kernel_rfl) (fun β => by kernel_rfl) (fun β w1 k1 h1 jq uq hu => by rw [add_none, Nat.zero_add]; exact cells_of_heap (h1 ((β 14), aO #[iV 1, iV 0, iV m, iV mh] 55) (List.mem_of_getElem? (i := 1) (by kernel_rfl))) jq uq hu)⟩,
                  tri_quietW (fun β => []) [] [] (fun β => []) (by kernel_rfl) (fun β extra => by kernel_rfl) (by kernel_rfl) (fun β => trivial)⟩,
                  tri_quietW (fun β => []) [0] [0] (fun β => [(pA b1, pA b1)]) (by kernel_rfl) (fun β extra => by kernel_rfl) (by kernel_rfl) (fun β => ⟨rfl, trivial⟩)⟩,
                  tri_quietW (fun β => []) [] [] (fun β => []) (by kernel_rfl) (fun β extra => by kernel_rfl) (by kernel_rfl) (fun β => trivial)⟩,
                  tri_vVW (fun β => .slice (some (cutA be oe pl p.ec 4)) (p.es.length - pl) (p.ec - pl)) (fun β => by kernel_rfl) (fun β => (Instr.sliceAt 24 (.slice p.ea p.es.length p.ec) (some (iV (pl : Int))) none none >>= fun v => pure (Next.value v))) (by kernel_rfl) (fun β extra => by kernel_rfl) (fun β => by kernel_rfl) (fun β w1 k1 h1 => (by rw [hbe]; exact cut_l (P := Tryz.prog) (t := 24) (e := 55) (n := 4) (by kernel_rfl) (by kernel_rfl) be (oe) p.es.length p.ec w1 .i64 pl (by omega)))⟩,
                  tri_app (t := 24) (ty := 24) (e := 55) (n := 4) (z := (.agg #[iV 0, iV 0, iV 0, iV 0])) (by kernel_rfl) (by kernel_rfl) (by kernel_rfl) rfl (by kernel_rfl) evR evR_len evR_one 20 1000020 15 rfl rfl (fun β => (β 15)) (fun β => (cutA be oe pl p.ec 4)) (fun β => []) (pl + 1) (p.es.length - pl) (p.ec - pl) (fun β => (capE (pl + 1) (capN pl (β 1000006)) (β 1000015))) (((p.es.take pl : List Ev)) ++ ([(1, 0, m, mh)] : List Ev)) (p.es.drop pl : List Ev) (fun β => (spE ((.agg #[iV 0, iV 0, iV 0, iV 0])) (pl + 1) (capN pl (β 1000006)) (1 * 4) (spareN ((.agg #[iV 0, iV 0, iV 0, iV 0])) pl (β 1000006)) (β 1000015))) (by first | rfl | omega | (simp; done) | (simp; omega)) (by first | rfl | omega | (simp; done) | (simp; omega)) (fun β => (appE_len (len := pl) (m := 1) evR_len (by first | rfl | omega | (simp; done) | (simp; omega)) (by first | rfl | omega | (simp; done) | (simp; omega)) (grow_len (l := pl) evR_len (by first | rfl | omega | (simp; done) | (simp; omega)) (by simp only [maxLen]; omega) _ rfl _) (by simp only [maxLen]; omega) _ rfl _)) (by omega) (by kernel_rfl) (by kernel_rfl) (fun β extra => by kernel_rfl) (fun β => by kernel_rfl) (fun β b x => by kernel_rfl) (fun β b x => by kernel_rfl) (fun β b x => by kernel_rfl) (fun β => by kernel_rfl) (fun β => (fun w1 k1 h1 jq uq hu => drop_src hp hcap hbe pl k1 jq uq hu))⟩,
                  tri_quietW (fun β => []) [] [] (fun β => []) (by kernel_rfl) (fun β extra => by kernel_rfl) (by kernel_rfl) (fun β => trivial)⟩
                  (fun β => ⟨[(1, .int .u8 z), (3, .int .u16 y), (4, pA b1), (8, .bool false), (10, iV (pl : Int)), (12, .slice (some ⟨(β 20), 0, none⟩) (pl + 1 + (p.es.length - pl)) (capE (pl + 1 + (p.es.length - pl)) (capE (pl + 1) (capN pl (β 1000006)) (β 1000015)) (β 1000020)))], [(b1, aO #[iV p.ll, iV p.lh, iV p.ul, iV p.uh, .slice p.ea p.es.length p.ec] 26), ((β 20), cO (((((p.es.take pl : List Ev)) ++ ([(1, 0, m, mh)] : List Ev)) ++ (p.es.drop pl : List Ev)).flatMap evR ++ (spE ((.agg #[iV 0, iV 0, iV 0, iV 0])) (pl + 1 + (p.es.length - pl)) (capE (pl + 1) (capN pl (β 1000006)) (β 1000015)) ((p.es.length - pl) * 4) (spE ((.agg #[iV 0, iV 0, iV 0, iV 0])) (pl + 1) (capN pl (β 1000006)) (1 * 4) (spareN ((.agg #[iV 0, iV 0, iV 0, iV 0])) pl (β 1000006)) (β 1000015)) (β 1000020))) 55)]⟩) (fun β => by kernel_rfl) (fun β2 => ?_)
        refine run_ge0 1 (β2 20) (cO (((((p.es.take pl : List Ev)) ++ ([(1, 0, m, mh)] : List Ev)) ++ (p.es.drop pl : List Ev)).flatMap evR ++ (spE ((.agg #[iV 0, iV 0, iV 0, iV 0])) (pl + 1 + (p.es.length - pl)) (capE (pl + 1) (capN pl (β2 1000006)) (β2 1000015)) ((p.es.length - pl) * 4) (spE ((.agg #[iV 0, iV 0, iV 0, iV 0])) (pl + 1) (capN pl (β2 1000006)) (1 * 4) (spareN ((.agg #[iV 0, iV 0, iV 0, iV 0])) pl (β2 1000006)) (β2 1000015)) (β2 1000020))) 55) (by kernel_rfl) (fun _ h => h) (fun hge3 => ?_)
        refine run_auto [] 1 [] [] [1, 3, 4, 8, 10, 12] [1, 0] (st' := ⟨[(1, .int .u8 z), (3, .int .u16 y), (4, pA b1), (8, .bool false), (10, iV (pl : Int)), (12, .slice (some ⟨(β2 20), 0, none⟩) (pl + 1 + (p.es.length - pl)) (capE (pl + 1 + (p.es.length - pl)) (capE (pl + 1) (capN pl (β2 1000006)) (β2 1000015)) (β2 1000020)))], [((β2 20), cO (((((p.es.take pl : List Ev)) ++ ([(1, 0, m, mh)] : List Ev)) ++ (p.es.drop pl : List Ev)).flatMap evR ++ (spE ((.agg #[iV 0, iV 0, iV 0, iV 0])) (pl + 1 + (p.es.length - pl)) (capE (pl + 1) (capN pl (β2 1000006)) (β2 1000015)) ((p.es.length - pl) * 4) (spE ((.agg #[iV 0, iV 0, iV 0, iV 0])) (pl + 1) (capN pl (β2 1000006)) (1 * 4) (spareN ((.agg #[iV 0, iV 0, iV 0, iV 0])) pl (β2 1000006)) (β2 1000015)) (β2 1000020))) 55), (b1, aO #[iV p.ll, iV p.lh, iV p.ul, iV p.uh, .slice p.ea p.es.length p.ec] 26)]⟩) (acc := []) (by kernel_rfl) (by kernel_rfl) trivial ?_
        exact run_eqK (by kernel_rfl) (more8 p z y m mh r pl b1 (β2 20) (capE (pl + 1 + (p.es.length - pl)) (capE (pl + 1) (capN pl (β2 1000006)) (β2 1000015)) (β2 1000020)) (pl + 1 + (p.es.length - pl)) ((((p.es.take pl : List Ev)) ++ ([(1, 0, m, mh)] : List Ev)) ++ (p.es.drop pl : List Ev)) (spE ((.agg #[iV 0, iV 0, iV 0, iV 0])) (pl + 1 + (p.es.length - pl)) (capE (pl + 1) (capN pl (β2 1000006)) (β2 1000015)) ((p.es.length - pl) * 4) (spE ((.agg #[iV 0, iV 0, iV 0, iV 0])) (pl + 1) (capN pl (β2 1000006)) (1 * 4) (spareN ((.agg #[iV 0, iV 0, iV 0, iV 0])) pl (β2 1000006)) (β2 1000015)) (β2 1000020)) w hp hok z1 z2 y1 y2 hr hmr (by omega) (by omega) hpln rfl (by simp; try omega))

end Go.Proofs.YtdehgplklgfcdaaGreat
