/-
  LAW: WearTrue, walked.
-/
import Derived.Test.YtihoackebmnkaaaGreatHJ4
namespace Go.Proofs.YtihoackebmnkaaaGreat
open Go.RowKit Go.Proofs.Tryz


theorem RowU.keep {w w1 : World} {a : Option Addr} {L : List Int} (h : RowU w a L) (k : Keeps w w1) : RowU w1 a L := by
  intro hne
  obtain ⟨b, o, ha, hc⟩ := h hne
  exact ⟨b, o, ha, fun i hi => ⟨k.cell (hc i hi).1, (hc i hi).2⟩⟩
theorem lnT_row {T : Nat → Nat × Int} {j i i' : Nat} (h : i < (lnT T j).length) (e : i = i') : inR (lnT T j)[i] = inR (T i').2 := by
  subst e
  rw [inR_at h, lnT_at (by have := lnT_len T j; omega)]
set_option maxRecDepth 100000 in
set_option maxHeartbeats 4000000 in
theorem wearTrue_any (p : Wb) (L : List Int) (aa : Option Addr) (lc : Nat) (y : Int) (xs : List Int) (sa : Option Addr) (sk : Nat) (y1 : 0 ≤ y) (y2 : y ≤ 65535) (w : World) (hp : p.In w) (hU : RowU w aa L) (hlm : L.length ≤ maxLen) (hB : RowB w sa xs) (hxl : xs.length ≤ maxLen) : Calls Tryz.prog 5 #[.agg #[.int .i64 p.ll, .int .i64 p.lh, .int .i64 p.ul, .int .i64 p.uh, .slice p.ea p.es.length p.ec], .slice aa L.length lc, .int .u16 y, .slice sa xs.length sk] w (RetB true w) := by
  obtain ⟨r, hr⟩ : ∃ r, y % 420 = r := ⟨_, rfl⟩
  obtain ⟨m, hmr⟩ : ∃ m, r - 60 = m := ⟨_, rfl⟩
  have hm1 : spI (m, m) (-1000) 1000 = true := sp_self (by omega) (by omega)
  obtain ⟨D, hDe⟩ : ∃ D, Dl xs xs.length = D := ⟨_, rfl⟩
  have hDo := Dl_ok xs xs.length
  rw [hDe] at hDo
  obtain ⟨hD10, hDv⟩ := hDo
  have hml : (1000000 : Nat) ≤ maxLen := by simp only [maxLen]; omega
  obtain ⟨T, hT⟩ : ∃ T : Nat → Nat × Int, trT L (p.ul, p.uh) (p.ll, p.lh) p.es = T := ⟨_, rfl⟩
  refine calls_run (fn := f5) (c := (f5.body).getD .skip) [.agg #[.int .i64 p.ll, .int .i64 p.lh, .int .i64 p.ul, .int .i64 p.uh, .slice p.ea p.es.length p.ec], .slice aa L.length lc, .int .u16 y, .slice sa xs.length sk] func5 (by kernel_rfl) (fun _ => False) [] (fun _ h => by cases h) (List.Pairwise.nil) 283 (by kernel_rfl) (by simp) ?_
  refine run_auto [] 2 [] [] [0, 1, 2, 3] [] (st' := ⟨[(0, .agg #[iV p.ll, iV p.lh, iV p.ul, iV p.uh, .slice p.ea p.es.length p.ec]), (1, .slice aa L.length lc), (2, .int .u16 y), (3, .slice sa xs.length sk)], []⟩) (acc := []) (by kernel_rfl) (by kernel_rfl) trivial ?_
  refine run_new (aO #[iV p.ll, iV p.lh, iV p.ul, iV p.uh, .slice p.ea p.es.length p.ec] 26) (fun b1 => pA b1) (some 4) (fun _ => by kernel_rfl) (fun b1 hb1 => ?_)
  refine run_auto [] 6 [] [0] [1, 2, 3, 4, 8, 37] [0] (st' := ⟨[(1, .slice aa L.length lc), (2, .int .u16 y), (3, .slice sa xs.length sk), (4, pA b1), (8, .bool false), (37, .agg #[iV p.ll, iV p.lh, iV p.ul, iV p.uh, .slice p.ea p.es.length p.ec])], [(b1, aO #[iV p.ll, iV p.lh, iV p.ul, iV p.uh, .slice p.ea p.es.length p.ec] 26)]⟩) (acc := [(pA b1, pA b1)]) (by kernel_rfl) (by kernel_rfl) ⟨rfl, trivial⟩ ?_
  cases hd1 : p.n.ok with
  | false =>
    refine run_ret1 28 #[.agg #[iV p.ll, iV p.lh, iV p.ul, iV p.uh, .slice p.ea p.es.length p.ec]] (some 38) (.bool false) (by kernel_rfl) (fun w1 k1 h1 => (by have h := fine_any p w1 (hp.keep (k1.keeps (fun _ h => h))); rw [hd1] at h; exact h)) ?_
    refine run_auto [(39, .bool true)] 5 [true] [] [1, 2, 3, 4, 8] [0] (st' := ⟨[(1, .slice aa L.length lc), (2, .int .u16 y), (3, .slice sa xs.length sk), (4, pA b1), (8, .bool false)], [(b1, aO #[iV p.ll, iV p.lh, iV p.ul, iV p.uh, .slice p.ea p.es.length p.ec] 26)]⟩) (acc := [(.bool true, .bool true), (.bool true, .bool true)]) (by kernel_rfl) (by kernel_rfl) ⟨rfl, rfl, trivial⟩ ?_
    refine run_ret1 13 #[] (some 40) (.bool true) (by kernel_rfl) (fun w1 k1 h1 => awake_any w1) ?_
    refine run_auto [] 2 [] [] [1, 2, 3, 4, 8] [0] (st' := ⟨[(1, .slice aa L.length lc), (2, .int .u16 y), (3, .slice sa xs.length sk), (4, pA b1), (8, .bool true)], [(b1, aO #[iV p.ll, iV p.lh, iV p.ul, iV p.uh, .slice p.ea p.es.length p.ec] 26)]⟩) (acc := []) (by kernel_rfl) (by kernel_rfl) trivial ?_
    refine run_end (fn := f5) rfl (Nat.le_refl _) (by kernel_rfl) [] [.bool true] (e := []) (by kernel_rfl) trivial (fun w1 k1 h1 => ?_)
    exact ⟨rfl, k1.keeps (fun _ h => h)⟩
  | true =>
    have hok := hd1
    have hF := Wn.fine hok
    have hn8 : p.es.length ≤ 8 := hF.n8
    have hl0 : 0 ≤ p.ll ∧ p.ll ≤ p.lh ∧ p.lh ≤ 300 := hF.l
    have hu0 : 0 ≤ p.ul ∧ p.ul ≤ p.uh ∧ p.uh ≤ 3 := hF.u
    have hTb0 : ∀ j, j ≤ p.es.length → (T j).1 ≤ 1 + 20 * j ∧ -(60 * (j : Int)) ≤ (T j).2 ∧ (T j).2 ≤ 300 := by rw [← hT]; exact tr_bd L hF.u hF.l hF.ev
    refine run_ret1 28 #[.agg #[iV p.ll, iV p.lh, iV p.ul, iV p.uh, .slice p.ea p.es.length p.ec]] (some 38) (.bool true) (by kernel_rfl) (fun w1 k1 h1 => (by have h := fine_any p w1 (hp.keep (k1.keeps (fun _ h => h))); rw [hd1] at h; exact h)) ?_
    refine run_auto [(39, .bool false)] 8 [false] [0] [1, 2, 3, 4, 8, 42, 43] [0] (st' := ⟨[(1, .slice aa L.length lc), (2, .int .u16 y), (3, .slice sa xs.length sk), (4, pA b1), (8, .bool false), (42, .agg #[iV p.ll, iV p.lh, iV p.ul, iV p.uh, .slice p.ea p.es.length p.ec]), (43, .slice aa L.length lc)], [(b1, aO #[iV p.ll, iV p.lh, iV p.ul, iV p.uh, .slice p.ea p.es.length p.ec] 26)]⟩) (acc := [(pA b1, pA b1), (.bool false, .bool false), (.bool false, .bool false)]) (by kernel_rfl) (by kernel_rfl) ⟨rfl, rfl, rfl, trivial⟩ ?_
    refine run_nwl 29 #[.agg #[iV p.ll, iV p.lh, iV p.ul, iV p.uh, .slice p.ea p.es.length p.ec], .slice aa L.length lc] (some 44) (α := Nat × Nat × List Value × Nat × Nat × List Value) (fun x => .tuple #[.agg #[iV p.ll, iV p.lh, iV p.ul, iV p.uh, .slice (some ⟨(x.1), 0, none⟩) p.es.length (x.2.1)], .slice (some ⟨(x.2.2.2.1), 0, none⟩) (p.es.length + 1) (x.2.2.2.2.1)]) (fun x => [((x.1), cO ((trB p L (some ⟨(x.1), 0, none⟩) (x.2.1)).es.flatMap evR ++ (x.2.2.1)) 55), ((x.2.2.2.1), cO ((lnT T p.es.length).flatMap inR ++ (x.2.2.2.2.2)) 3)]) (fun x => p.es.length + 1 ≤ (x.2.2.2.2.1)) (by kernel_rfl) (fun x p hp => by simp only [List.mem_cons, List.not_mem_nil, or_false] at hp; rcases hp with rfl | rfl <;> rfl) (fun w1 k1 h1 => (by have h := truly_any p L aa lc w1 (hp.keep (k1.keeps (fun _ h => h))) hok (hU.keep (k1.keeps (fun _ h => h))) hlm; rw [hT] at h; exact h)) (fun x hI2 hn2 => ?_)
    obtain ⟨g2, cap2, sp2, gl2, cl2, sl2⟩ := x
    dsimp only at hI2 hn2
    have hg2 := hn2 _ (List.mem_of_getElem? (i := 0) rfl)
    have hgl2 := hn2 _ (List.mem_of_getElem? (i := 1) rfl)
    have hcl : p.es.length + 1 ≤ cl2 := hI2
    obtain ⟨q, hq⟩ : ∃ q, trB p L (some ⟨g2, 0, none⟩) cap2 = q := ⟨_, rfl⟩
    have hqF : q.n.Fine := by rw [← hq]; exact trB_fine hF L _ _
    have hqT : TruW q.n (fun i => (T i).2) := by rw [← hq, ← hT]; exact trB_tru hF L _ _
    have hqc := hqT.can hqF
    have hql : q.es.length = p.es.length := by rw [← hq]; exact trB_len p L _ _
    have hquh : q.uh = p.uh := by rw [← hq]; rfl
    have hqul : q.ul = p.ul := by rw [← hq]; rfl
    have hKt := hqT.mC hqF (Nat.le_refl _)
    rw [show q.n.es.length = p.es.length from hql] at hKt
    try dsimp only at hKt
    obtain ⟨sb, hsb⟩ : ∃ x, belS q.n m q.es.length = x := ⟨_, rfl⟩
    obtain ⟨pb, hpb⟩ : ∃ x, belP q.n m q.es.length = x := ⟨_, rfl⟩
    have hb8 := bel_lt8 (show q.es.length ≤ 8 by omega) hsb hpb
    have hsub := bel_sub hqF hqc m (Nat.le_refl _) hsb hpb
    obtain ⟨uv, huv⟩ : ∃ x, inA (untilR q m) = x := ⟨_, rfl⟩
    obtain ⟨ue, hue⟩ : ∃ x, erA (untilR q m) = x := ⟨_, rfl⟩
    have hUn := until_is hqF hqc hm1 huv hue
    rw [hql, hquh] at hUn
    obtain ⟨dv, hdv⟩ : ∃ x, inA (dayR q m D) = x := ⟨_, rfl⟩
    obtain ⟨de, hde⟩ : ∃ x, erA (dayR q m D) = x := ⟨_, rfl⟩
    have hY := day_is hqF hqc hD10 hDv hm1 hdv hde
    have hYo := hY.of
    obtain ⟨gr, hgr⟩ : ∃ x, judV (mC q.n p.es.length) ((T p.es.length).2, (T p.es.length).2) = x := ⟨_, rfl⟩
    have hG := jud_is hgr
    try dsimp only at hG
    obtain ⟨N, hN⟩ : ∃ N : Nat → Nat × Int, ndT L (p.ul, p.uh) D (T p.es.length).2 = N := ⟨_, rfl⟩
    have hNb : ∀ k, k ≤ D.length → (N k).1 ≤ 20 * k ∧ nowS q D k ≤ (N k).2 ∧ (N k).2 ≤ (T p.es.length).2 := by rw [← hN, ← hqul, ← hquh]; exact nd_bd L (by rw [hqul, hquh]; exact hu0) hDv (by rw [hql]; exact hKt.1)
    have hwy : inB ((T 0).2 - (T p.es.length).2) q.n.lost = true := by have h := lost_has hqF hqc hqT.way; rw [show q.n.es.length = p.es.length from hql] at h; exact h
    have hTn := hTb0 p.es.length (Nat.le_refl _)
    have hT0 := hTb0 0 (Nat.zero_le _)
    have hs1 : spI ((T p.es.length).2, (T p.es.length).2) (-1000) 1000 = true := sp_self (by omega) (by omega)
    refine run_auto [] 3 [] [] [1, 2, 3, 4, 8, 45, 46] [0, 1, 2] (st' := ⟨[(1, .slice aa L.length lc), (2, .int .u16 y), (3, .slice sa xs.length sk), (4, pA b1), (8, .bool false), (45, .agg #[iV p.ll, iV p.lh, iV p.ul, iV p.uh, sV g2 p.es.length cap2]), (46, sV gl2 (p.es.length + 1) cl2)], [(g2, cO ((trB p L (some ⟨g2, 0, none⟩) cap2).es.flatMap evR ++ sp2) 55), (gl2, cO ((lnT T p.es.length).flatMap inR ++ sl2) 3), (b1, aO #[iV p.ll, iV p.lh, iV p.ul, iV p.uh, .slice p.ea p.es.length p.ec] 26)]⟩) (acc := []) (by kernel_rfl) (by kernel_rfl) trivial ?_
    refine run_new (aO #[iV 0, iV 0, iV 0, iV 0, .slice none 0 0] 26) (fun b3 => pA b3) (some 9) (fun _ => by kernel_rfl) (fun b3 hb3 => ?_)
    refine run_auto [] 6 [] [0, 0] [1, 2, 3, 4, 8, 9, 10, 48] [0, 1, 2, 3] (st' := ⟨[(1, .slice aa L.length lc), (2, .int .u16 y), (3, .slice sa xs.length sk), (4, pA b1), (8, .bool false), (9, pA b3), (10, sV gl2 (p.es.length + 1) cl2), (48, .agg #[iV p.ll, iV p.lh, iV p.ul, iV p.uh, sV g2 p.es.length cap2])], [(b3, aO #[iV p.ll, iV p.lh, iV p.ul, iV p.uh, sV g2 p.es.length cap2] 26), (g2, cO ((trB p L (some ⟨g2, 0, none⟩) cap2).es.flatMap evR ++ sp2) 55), (gl2, cO ((lnT T p.es.length).flatMap inR ++ sl2) 3), (b1, aO #[iV p.ll, iV p.lh, iV p.ul, iV p.uh, .slice p.ea p.es.length p.ec] 26)]⟩) (acc := [(pA b3, pA b3), (pA b3, pA b3)]) (by kernel_rfl) (by kernel_rfl) ⟨rfl, rfl, trivial⟩ ?_
    refine run_ret1 26 #[.agg #[iV p.ll, iV p.lh, iV p.ul, iV p.uh, sV g2 p.es.length cap2]] (some 49) (.tuple #[iV 0, iV 4]) (by kernel_rfl) (fun w1 k1 h1 => (by have h := Clash_any (trB p L (some ⟨g2, 0, none⟩) cap2) w1 ⟨Evs.of_flat (sp := sp2) (h1 (g2, cO ((trB p L (some ⟨g2, 0, none⟩) cap2).es.flatMap evR ++ sp2) 55) (List.mem_of_getElem? (i := 1) (by kernel_rfl))), by show (trB p L (some ⟨g2, 0, none⟩) cap2).es.length ≤ maxLen; rw [trB_len]; exact hp.ln⟩; rw [show (trB p L (some ⟨g2, 0, none⟩) cap2).es.length = p.es.length from trB_len _ _ _ _] at h; rw [show clashR (trB p L (some ⟨g2, 0, none⟩) cap2) = .inl 4 from by rw [hq]; exact clashR_ok hqF hqc] at h; exact h)) ?_
    refine run_auto [] 9 [] [0] [1, 2, 3, 4, 8, 9, 10, 12, 53] [0, 1, 2, 3] (st' := ⟨[(1, .slice aa L.length lc), (2, .int .u16 y), (3, .slice sa xs.length sk), (4, pA b1), (8, .bool false), (9, pA b3), (10, sV gl2 (p.es.length + 1) cl2), (12, iV 4), (53, .agg #[iV p.ll, iV p.lh, iV p.ul, iV p.uh, sV g2 p.es.length cap2])], [(b3, aO #[iV p.ll, iV p.lh, iV p.ul, iV p.uh, sV g2 p.es.length cap2] 26), (g2, cO ((trB p L (some ⟨g2, 0, none⟩) cap2).es.flatMap evR ++ sp2) 55), (gl2, cO ((lnT T p.es.length).flatMap inR ++ sl2) 3), (b1, aO #[iV p.ll, iV p.lh, iV p.ul, iV p.uh, .slice p.ea p.es.length p.ec] 26)]⟩) (acc := [(pA b3, pA b3)]) (by kernel_rfl) (by kernel_rfl) ⟨rfl, trivial⟩ ?_
    refine run_ret1 16 #[.agg #[iV p.ll, iV p.lh, iV p.ul, iV p.uh, sV g2 p.es.length cap2]] (some 54) (.tuple #[.agg #[iV q.n.lost.1, iV q.n.lost.2], iV 0]) (by kernel_rfl) (fun w1 k1 h1 => (by have h := Lost_any (trB p L (some ⟨g2, 0, none⟩) cap2) w1 ⟨Evs.of_flat (sp := sp2) (h1 (g2, cO ((trB p L (some ⟨g2, 0, none⟩) cap2).es.flatMap evR ++ sp2) 55) (List.mem_of_getElem? (i := 1) (by kernel_rfl))), by show (trB p L (some ⟨g2, 0, none⟩) cap2).es.length ≤ maxLen; rw [trB_len]; exact hp.ln⟩; rw [show (trB p L (some ⟨g2, 0, none⟩) cap2).es.length = p.es.length from trB_len _ _ _ _] at h; rw [show lostR (trB p L (some ⟨g2, 0, none⟩) cap2) = .inr q.n.lost from by rw [hq]; exact lostR_ok hqF hqc] at h; exact h)) ?_
    refine run_auto [] 3 [] [] [1, 2, 3, 4, 8, 9, 10, 12, 55, 56] [0, 1, 2, 3] (st' := ⟨[(1, .slice aa L.length lc), (2, .int .u16 y), (3, .slice sa xs.length sk), (4, pA b1), (8, .bool false), (9, pA b3), (10, sV gl2 (p.es.length + 1) cl2), (12, iV 4), (55, .agg #[iV q.n.lost.1, iV q.n.lost.2]), (56, iV 0)], [(b3, aO #[iV p.ll, iV p.lh, iV p.ul, iV p.uh, sV g2 p.es.length cap2] 26), (g2, cO ((trB p L (some ⟨g2, 0, none⟩) cap2).es.flatMap evR ++ sp2) 55), (gl2, cO ((lnT T p.es.length).flatMap inR ++ sl2) 3), (b1, aO #[iV p.ll, iV p.lh, iV p.ul, iV p.uh, .slice p.ea p.es.length p.ec] 26)]⟩) (acc := []) (by kernel_rfl) (by kernel_rfl) trivial ?_
    refine run_new (aO #[iV 0, iV 0] 23) (fun b4 => pA b4) (some 13) (fun _ => by kernel_rfl) (fun b4 hb4 => ?_)
    refine run_auto [(58, iV y), (59, iV r), (60, iV m)] 15 [] [0, 1] [1, 3, 4, 8, 9, 10, 12, 13, 14, 15, 62, 63] [0, 1, 2, 3, 4] (st' := ⟨[(1, .slice aa L.length lc), (3, .slice sa xs.length sk), (4, pA b1), (8, .bool false), (9, pA b3), (10, sV gl2 (p.es.length + 1) cl2), (12, iV 4), (13, pA b4), (14, iV 0), (15, iV m), (62, .agg #[iV p.ll, iV p.lh, iV p.ul, iV p.uh, sV g2 p.es.length cap2]), (63, iV m)], [(b4, aO #[iV q.n.lost.1, iV q.n.lost.2] 23), (b3, aO #[iV p.ll, iV p.lh, iV p.ul, iV p.uh, sV g2 p.es.length cap2] 26), (g2, cO ((trB p L (some ⟨g2, 0, none⟩) cap2).es.flatMap evR ++ sp2) 55), (gl2, cO ((lnT T p.es.length).flatMap inR ++ sl2) 3), (b1, aO #[iV p.ll, iV p.lh, iV p.ul, iV p.uh, .slice p.ea p.es.length p.ec] 26)]⟩) (acc := [(pA b3, pA b3), (iV (IntKind.i64.wrap (r - 60)), iV m), (iV (Int.tmod y 420), iV r), (iV (IntKind.i64.wrap y), iV y), (pA b4, pA b4)]) (by kernel_rfl) (by kernel_rfl) ⟨rfl, ((wr (by omega) (by omega)).trans (io hmr)), ((rm 420 (by omega)).trans (io hr)), (wr (by omega) (by omega)), rfl, trivial⟩ ?_
    refine run_ret1 18 #[.agg #[iV p.ll, iV p.lh, iV p.ul, iV p.uh, sV g2 p.es.length cap2], iV m] (some 64) (.tuple #[iV (sb : Int), iV (pb : Int), iV 0]) (by kernel_rfl) (fun w1 k1 h1 => (by have h := Below_any (trB p L (some ⟨g2, 0, none⟩) cap2) m w1 ⟨Evs.of_flat (sp := sp2) (h1 (g2, cO ((trB p L (some ⟨g2, 0, none⟩) cap2).es.flatMap evR ++ sp2) 55) (List.mem_of_getElem? (i := 2) (by kernel_rfl))), by show (trB p L (some ⟨g2, 0, none⟩) cap2).es.length ≤ maxLen; rw [trB_len]; exact hp.ln⟩; rw [show (trB p L (some ⟨g2, 0, none⟩) cap2).es.length = p.es.length from trB_len _ _ _ _] at h; rw [show belowR (trB p L (some ⟨g2, 0, none⟩) cap2) m = .inr ((sb : Int), (pb : Int)) from by rw [hq]; exact belowR_ok hqF hqc hm1 hsb hpb] at h; exact h)) ?_
    refine run_auto [(71, iV (p.es.length : Int))] 14 [] [] [1, 3, 4, 8, 9, 10, 12, 13, 14, 15, 16, 17, 18, 68, 71] [0, 1, 2, 3, 4] (st' := ⟨[(1, .slice aa L.length lc), (3, .slice sa xs.length sk), (4, pA b1), (8, .bool false), (9, pA b3), (10, sV gl2 (p.es.length + 1) cl2), (12, iV 4), (13, pA b4), (14, iV 0), (15, iV m), (16, iV (sb : Int)), (17, iV (pb : Int)), (18, iV 0), (68, sV gl2 (p.es.length + 1) cl2), (71, iV (p.es.length : Int))], [(b4, aO #[iV q.n.lost.1, iV q.n.lost.2] 23), (b3, aO #[iV p.ll, iV p.lh, iV p.ul, iV p.uh, sV g2 p.es.length cap2] 26), (g2, cO ((trB p L (some ⟨g2, 0, none⟩) cap2).es.flatMap evR ++ sp2) 55), (gl2, cO ((lnT T p.es.length).flatMap inR ++ sl2) 3), (b1, aO #[iV p.ll, iV p.lh, iV p.ul, iV p.uh, .slice p.ea p.es.length p.ec] 26)]⟩) (acc := [(iV (IntKind.i64.wrap ((p.es.length + 1 : Int) - 1)), iV (p.es.length : Int))]) (by kernel_rfl) (by kernel_rfl) ⟨((wr (by omega) (by omega)).trans (io (by omega))), trivial⟩ ?_
    refine run_v (Instr.indexAt 38 (sV gl2 (p.es.length + 1) cl2) (iV (p.es.length : Int)) >>= fun v => pure (Next.value v)) (some 72) (.pointer (some ⟨gl2, p.es.length, none⟩)) (by kernel_rfl) (fun w1 k1 h1 => idx_off (e := 3) (n := 1) (by kernel_rfl) (by kernel_rfl) gl2 (0) (p.es.length + 1) cl2 .i64 p.es.length (by omega) (p.es.length) (by omega) w1) ?_
    refine run_v (Instr.loadAt 3 (.pointer (some ⟨gl2, p.es.length, none⟩)) >>= fun v => pure (Next.value v)) (some 73) (iV (T p.es.length).2) (by kernel_rfl) (fun w1 k1 h1 => load_own (e := 3) (fr := (0, 0)) (c := (lnT T p.es.length).flatMap inR ++ sl2) h1 (List.mem_of_getElem? (i := 3) (by kernel_rfl)) (flat_loadF (c := inR) (n := 1) inR_len (by kernel_rfl) (i := p.es.length) (k := 0) (by first | omega | (simp; done) | (simp; omega)) (by rw [lnT_row (i' := p.es.length) (by first | omega | (simp; done) | (simp; omega)) (by omega)]; rfl) (by omega))) ?_
    refine run_auto [] 4 [] [] [1, 3, 4, 8, 9, 10, 12, 13, 14, 15, 16, 17, 18, 19] [0, 1, 2, 3, 4] (st' := ⟨[(1, .slice aa L.length lc), (3, .slice sa xs.length sk), (4, pA b1), (8, .bool false), (9, pA b3), (10, sV gl2 (p.es.length + 1) cl2), (12, iV 4), (13, pA b4), (14, iV 0), (15, iV m), (16, iV (sb : Int)), (17, iV (pb : Int)), (18, iV 0), (19, iV (T p.es.length).2)], [(b4, aO #[iV q.n.lost.1, iV q.n.lost.2] 23), (b3, aO #[iV p.ll, iV p.lh, iV p.ul, iV p.uh, sV g2 p.es.length cap2] 26), (g2, cO ((trB p L (some ⟨g2, 0, none⟩) cap2).es.flatMap evR ++ sp2) 55), (gl2, cO ((lnT T p.es.length).flatMap inR ++ sl2) 3), (b1, aO #[iV p.ll, iV p.lh, iV p.ul, iV p.uh, .slice p.ea p.es.length p.ec] 26)]⟩) (acc := []) (by kernel_rfl) (by kernel_rfl) trivial ?_
    refine drawW 26 [{ val := fun _ => iV 4, slots := [12] },
          { val := fun _ => .bool false, slots := [74] },
          { val := fun _ => .bool false, slots := [75] },
          { val := fun _ => iV 0, slots := [14, 76] },
          { val := fun _ => .bool false, slots := [76, 77] },
          { val := fun _ => .bool false, slots := [76, 78] },
          { val := fun _ => .bool false, slots := [79] },
          { val := fun _ => sV gl2 (p.es.length + 1) cl2, slots := [10, 80] },
          { val := fun _ => pA gl2, slots := [80, 81] },
          { val := fun _ => iV (T 0).2, slots := [80, 82], reads := [3] },
          { val := fun _ => iV (T p.es.length).2, slots := [19, 80] },
          { val := fun _ => iV ((T 0).2 - (T p.es.length).2), slots := [80, 83, 84] },
          { val := fun _ => .agg #[iV q.n.lost.1, iV q.n.lost.2], slots := [13, 80], reads := [0] },
          { val := fun _ => .bool true, slots := [80, 85, 86] },
          { val := fun _ => .bool false, slots := [80, 87] },
          { val := fun _ => .bool false, slots := [80, 88] },
          { val := fun _ => .bool false, slots := [89] },
          { val := fun _ => iV 0, slots := [18, 90] },
          { val := fun _ => .bool false, slots := [90, 91] },
          { val := fun _ => .bool false, slots := [90, 92] },
          { val := fun _ => .bool false, slots := [93] },
          { val := fun _ => iV (sb : Int), slots := [16, 94] },
          { val := fun _ => iV (pb : Int), slots := [17, 94] },
          { val := fun _ => iV 0, slots := [94, 95, 96] },
          { val := fun _ => .bool false, slots := [94, 97] },
          { val := fun _ => .bool false, slots := [94, 98] }] [[], [0], [0, 1], [0, 1, 2], [0, 1, 2, 3], [0, 1, 2, 3, 4], [0, 1, 2, 3, 4, 5], [0, 1, 2, 3, 4, 5, 6], [0, 1, 2, 3, 4, 5, 6, 7], [0, 1, 2, 3, 4, 5, 6, 7, 8], [0, 1, 2, 3, 4, 5, 6], [0, 1, 2, 3, 4, 5, 6, 7, 8, 9, 10], [0, 1, 2, 3, 4, 5, 6], [0, 1, 2, 3, 4, 5, 6, 7, 8, 9, 10, 11, 12], [0, 1, 2, 3, 4, 5, 6, 7, 8, 9, 10, 11, 12, 13], [0, 1, 2, 3, 4, 5, 6, 7, 8, 9, 10, 11, 12, 13, 14], [0, 1, 2, 3, 4, 5, 6, 7, 8, 9, 10, 11, 12, 13, 14, 15], [0, 1, 2, 3, 4, 5, 6, 7, 8, 9, 10, 11, 12, 13, 14, 15, 16], [0, 1, 2, 3, 4, 5, 6, 7, 8, 9, 10, 11, 12, 13, 14, 15, 16, 17], [0, 1, 2, 3, 4, 5, 6, 7, 8, 9, 10, 11, 12, 13, 14, 15, 16, 17, 18], [0, 1, 2, 3, 4, 5, 6, 7, 8, 9, 10, 11, 12, 13, 14, 15, 16, 17, 18, 19], [0, 1, 2, 3, 4, 5, 6, 7, 8, 9, 10, 11, 12, 13, 14, 15, 16, 17, 18, 19, 20], [0, 1, 2, 3, 4, 5, 6, 7, 8, 9, 10, 11, 12, 13, 14, 15, 16, 17, 18, 19, 20], [0, 1, 2, 3, 4, 5, 6, 7, 8, 9, 10, 11, 12, 13, 14, 15, 16, 17, 18, 19, 20, 21, 22], [0, 1, 2, 3, 4, 5, 6, 7, 8, 9, 10, 11, 12, 13, 14, 15, 16, 17, 18, 19, 20, 21, 22, 23], [0, 1, 2, 3, 4, 5, 6, 7, 8, 9, 10, 11, 12, 13, 14, 15, 16, 17, 18, 19, 20, 21, 22, 23, 24]] (by kernel_rfl) (by kernel_rfl) (by kernel_rfl) (by kernel_rfl) [1, 3, 4, 8, 9, 10, 15, 16, 17, 19, 99] [1, 2, 3, 4] (by kernel_rfl)
          ⟨⟨⟨⟨⟨⟨⟨⟨⟨⟨⟨⟨⟨⟨⟨⟨⟨⟨⟨⟨⟨⟨⟨⟨⟨⟨trivial,
          tri_quietW (fun β => []) [] [] (fun β => []) (by kernel_rfl) (fun β extra => by kernel_rfl) (by kernel_rfl) (fun β => trivial)⟩,
          tri_quietW (fun β => [(75, .bool false)]) [] [] (fun β => [(.bool false, .bool false)]) (by kernel_rfl) (fun β extra => by kernel_rfl) (by kernel_rfl) (fun β => ⟨rfl, trivial⟩)⟩,
          tri_quietW (fun β => []) [] [] (fun β => []) (by kernel_rfl) (fun β extra => by kernel_rfl) (by kernel_rfl) (fun β => trivial)⟩,
          tri_quietW (fun β => []) [] [] (fun β => []) (by kernel_rfl) (fun β extra => by kernel_rfl) (by kernel_rfl) (fun β => trivial)⟩,
          tri_quietW (fun β => [(78, .bool false)]) [] [] (fun β => [(.bool false, .bool false)]) (by kernel_rfl) (fun β extra => by kernel_rfl) (by kernel_rfl) (fun β => ⟨rfl, trivial⟩)⟩,
          tri_quietW (fun β => []) [] [] (fun β => []) (by kernel_rfl) (fun β extra => by kernel_rfl) (by kernel_rfl) (fun β => trivial)⟩,
          tri_quietW (fun β => []) [] [] (fun β => []) (by kernel_rfl) (fun β extra => by kernel_rfl) (by kernel_rfl) (fun β => trivial)⟩,
          tri_quietW (fun β => []) [] [] (fun β => []) (by kernel_rfl) (fun β extra => by kernel_rfl) (by kernel_rfl) (fun β => trivial)⟩,
          tri_vVW (fun β => pA gl2) (fun β => by kernel_rfl) (fun β => (Instr.indexAt 38 (sV gl2 (p.es.length + 1) cl2) (iV (0 : Int)) >>= fun v => pure (Next.value v))) (by kernel_rfl) (fun β extra => by kernel_rfl) (fun β => by kernel_rfl) (fun β w1 k1 h1 => idx_off (e := 3) (n := 1) (by kernel_rfl) (by kernel_rfl) gl2 (0) (p.es.length + 1) cl2 .i64 0 (by omega) (0) (by omega) w1)⟩,
          tri_vVW (fun β => iV (T 0).2) (fun β => by kernel_rfl) (fun β => (Instr.loadAt 3 (pA gl2) >>= fun v => pure (Next.value v))) (by kernel_rfl) (fun β extra => by kernel_rfl) (fun β => by kernel_rfl) (fun β w1 k1 h1 => load_own (e := 3) (fr := (0, 0)) (c := (lnT T p.es.length).flatMap inR ++ sl2) h1 (List.mem_of_getElem? (i := 0) (by kernel_rfl)) (flat_loadF (c := inR) (n := 1) inR_len (by kernel_rfl) (i := 0) (k := 0) (by first | omega | (simp; done) | (simp; omega)) (by rw [lnT_row (i' := 0) (by first | omega | (simp; done) | (simp; omega)) (by omega)]; rfl) (by omega)))⟩,
          tri_quietW (fun β => []) [] [] (fun β => []) (by kernel_rfl) (fun β extra => by kernel_rfl) (by kernel_rfl) (fun β => trivial)⟩,
          tri_quietW (fun β => [(85, iV ((T 0).2 - (T p.es.length).2))]) [] [] (fun β => [(iV (IntKind.i64.wrap ((T 0).2 - (T p.es.length).2)), iV ((T 0).2 - (T p.es.length).2))]) (by kernel_rfl) (fun β extra => by kernel_rfl) (by kernel_rfl) (fun β => ⟨(wr (by omega) (by omega)), trivial⟩)⟩,
          tri_quietW (fun β => []) [0] [0] (fun β => [(pA b4, pA b4)]) (by kernel_rfl) (fun β extra => by kernel_rfl) (by kernel_rfl) (fun β => ⟨rfl, trivial⟩)⟩,
          tri_callVW (fun β => .bool true) (fun β => by kernel_rfl) 30 (fun β => #[iV ((T 0).2 - (T p.es.length).2), .agg #[iV q.n.lost.1, iV q.n.lost.2]]) (by kernel_rfl) (fun β extra => by kernel_rfl) (fun β => by kernel_rfl) (fun β w1 k1 h1 => (by have h := inside_any ((T 0).2 - (T p.es.length).2) q.n.lost w1; rw [hwy] at h; exact h))⟩,
          tri_quietW (fun β => [(88, .bool false)]) [] [] (fun β => [(.bool false, .bool false)]) (by kernel_rfl) (fun β extra => by kernel_rfl) (by kernel_rfl) (fun β => ⟨rfl, trivial⟩)⟩,
          tri_quietW (fun β => []) [] [] (fun β => []) (by kernel_rfl) (fun β extra => by kernel_rfl) (by kernel_rfl) (fun β => trivial)⟩,
          tri_quietW (fun β => []) [] [] (fun β => []) (by kernel_rfl) (fun β extra => by kernel_rfl) (by kernel_rfl) (fun β => trivial)⟩,
          tri_quietW (fun β => []) [] [] (fun β => []) (by kernel_rfl) (fun β extra => by kernel_rfl) (by kernel_rfl) (fun β => trivial)⟩,
          tri_quietW (fun β => [(92, .bool false)]) [] [] (fun β => [(.bool false, .bool false)]) (by kernel_rfl) (fun β extra => by kernel_rfl) (by kernel_rfl) (fun β => ⟨rfl, trivial⟩)⟩,
          tri_quietW (fun β => []) [] [] (fun β => []) (by kernel_rfl) (fun β extra => by kernel_rfl) (by kernel_rfl) (fun β => trivial)⟩,
          tri_quietW (fun β => []) [] [] (fun β => []) (by kernel_rfl) (fun β extra => by kernel_rfl) (by kernel_rfl) (fun β => trivial)⟩,
          tri_quietW (fun β => []) [] [] (fun β => []) (by kernel_rfl) (fun β extra => by kernel_rfl) (by kernel_rfl) (fun β => trivial)⟩,
          tri_quietW (fun β => []) [] [] (fun β => []) (by kernel_rfl) (fun β extra => by kernel_rfl) (by kernel_rfl) (fun β => trivial)⟩,
          tri_quietW (fun β => [(97, iV 0)]) [] [] (fun β => [(iV (bits .andNot .i64 (sb : Int) (pb : Int)), iV 0)]) (by kernel_rfl) (fun β extra => by kernel_rfl) (by kernel_rfl) (fun β => ⟨((andNot_nat sb pb (by omega) (by omega)).trans (by rw [hsub]; rfl)), trivial⟩)⟩,
          tri_quietW (fun β => [(98, .bool false)]) [] [] (fun β => [(.bool false, .bool false)]) (by kernel_rfl) (fun β extra => by kernel_rfl) (by kernel_rfl) (fun β => ⟨rfl, trivial⟩)⟩,
          tri_quietW (fun β => []) [] [] (fun β => []) (by kernel_rfl) (fun β extra => by kernel_rfl) (by kernel_rfl) (fun β => trivial)⟩
          (fun β => ⟨[(1, .slice aa L.length lc), (3, .slice sa xs.length sk), (4, pA b1), (8, .bool false), (9, pA b3), (10, sV gl2 (p.es.length + 1) cl2), (15, iV m), (16, iV (sb : Int)), (17, iV (pb : Int)), (19, iV (T p.es.length).2), (99, .bool false)], [(b3, aO #[iV p.ll, iV p.lh, iV p.ul, iV p.uh, sV g2 p.es.length cap2] 26), (g2, cO ((trB p L (some ⟨g2, 0, none⟩) cap2).es.flatMap evR ++ sp2) 55), (gl2, cO ((lnT T p.es.length).flatMap inR ++ sl2) 3), (b1, aO #[iV p.ll, iV p.lh, iV p.ul, iV p.uh, .slice p.ea p.es.length p.ec] 26)]⟩) (fun β => by kernel_rfl) (fun β5 => ?_)
    refine run_auto [] 6 [false] [] [1, 3, 4, 8, 9, 15, 16, 17, 19, 100] [0, 1, 2, 3] (st' := ⟨[(1, .slice aa L.length lc), (3, .slice sa xs.length sk), (4, pA b1), (8, .bool false), (9, pA b3), (15, iV m), (16, iV (sb : Int)), (17, iV (pb : Int)), (19, iV (T p.es.length).2), (100, sV gl2 (p.es.length + 1) cl2)], [(b3, aO #[iV p.ll, iV p.lh, iV p.ul, iV p.uh, sV g2 p.es.length cap2] 26), (g2, cO ((trB p L (some ⟨g2, 0, none⟩) cap2).es.flatMap evR ++ sp2) 55), (gl2, cO ((lnT T p.es.length).flatMap inR ++ sl2) 3), (b1, aO #[iV p.ll, iV p.lh, iV p.ul, iV p.uh, .slice p.ea p.es.length p.ec] 26)]⟩) (acc := [(.bool false, .bool false)]) (by kernel_rfl) (by kernel_rfl) ⟨rfl, trivial⟩ ?_
    refine run_v (Instr.sliceAt 38 (sV gl2 (p.es.length + 1) cl2) (some (iV 1)) none none >>= fun v => pure (Next.value v)) (some 101) (.slice (some (cutA gl2 0 1 cl2 1)) ((p.es.length + 1) - 1) (cl2 - 1)) (by kernel_rfl) (fun w1 k1 h1 => cut_l (P := Tryz.prog) (t := 38) (e := 3) (n := 1) (by kernel_rfl) (by kernel_rfl) gl2 (0) (p.es.length + 1) cl2 w1 .i64 1 (by omega)) ?_
    refine run_auto [] 4 [] [] [1, 3, 4, 8, 9, 15, 16, 17, 19, 101, 102, 103] [0, 1, 2, 3] (st' := ⟨[(1, .slice aa L.length lc), (3, .slice sa xs.length sk), (4, pA b1), (8, .bool false), (9, pA b3), (15, iV m), (16, iV (sb : Int)), (17, iV (pb : Int)), (19, iV (T p.es.length).2), (101, .slice (some (cutA gl2 0 1 cl2 1)) ((p.es.length + 1) - 1) (cl2 - 1)), (102, iV ((((p.es.length + 1) - 1) : Nat) : Int)), (103, iV 0)], [(b3, aO #[iV p.ll, iV p.lh, iV p.ul, iV p.uh, sV g2 p.es.length cap2] 26), (g2, cO ((trB p L (some ⟨g2, 0, none⟩) cap2).es.flatMap evR ++ sp2) 55), (gl2, cO ((lnT T p.es.length).flatMap inR ++ sl2) 3), (b1, aO #[iV p.ll, iV p.lh, iV p.ul, iV p.uh, .slice p.ea p.es.length p.ec] 26)]⟩) (acc := []) (by kernel_rfl) (by kernel_rfl) trivial ?_
    refine run_auto [] 0 [] [] [1, 3, 4, 8, 9, 15, 16, 17, 19, 101, 102, 103] [0, 1, 2, 3] (st' := ⟨[(1, .slice aa L.length lc), (3, .slice sa xs.length sk), (4, pA b1), (8, .bool false), (9, pA b3), (15, iV m), (16, iV (sb : Int)), (17, iV (pb : Int)), (19, iV (T p.es.length).2), (101, .slice (some (cutA gl2 0 1 cl2 1)) ((p.es.length + 1) - 1) (cl2 - 1)), (102, iV ((((p.es.length + 1) - 1) : Nat) : Int)), (103, iV 0)], [(b3, aO #[iV p.ll, iV p.lh, iV p.ul, iV p.uh, sV g2 p.es.length cap2] 26), (g2, cO ((trB p L (some ⟨g2, 0, none⟩) cap2).es.flatMap evR ++ sp2) 55), (gl2, cO ((lnT T p.es.length).flatMap inR ++ sl2) 3), (b1, aO #[iV p.ll, iV p.lh, iV p.ul, iV p.uh, .slice p.ea p.es.length p.ec] 26)]⟩) (acc := []) (by kernel_rfl) (by kernel_rfl) trivial ?_
    refine run_loop (S := fun (k : Nat) => ⟨[(1, .slice aa L.length lc), (3, .slice sa xs.length sk), (4, pA b1), (8, .bool false), (9, pA b3), (15, iV m), (16, iV (sb : Int)), (17, iV (pb : Int)), (19, iV (T p.es.length).2), (101, .slice (some (cutA gl2 0 1 cl2 1)) ((p.es.length + 1) - 1) (cl2 - 1)), (102, iV ((((p.es.length + 1) - 1) : Nat) : Int)), (103, iV (k : Int))], [(b3, aO #[iV p.ll, iV p.lh, iV p.ul, iV p.uh, sV g2 p.es.length cap2] 26), (g2, cO ((trB p L (some ⟨g2, 0, none⟩) cap2).es.flatMap evR ++ sp2) 55), (gl2, cO ((lnT T p.es.length).flatMap inR ++ sl2) 3), (b1, aO #[iV p.ll, iV p.lh, iV p.ul, iV p.uh, .slice p.ea p.es.length p.ec] 26)]⟩) (fun k => k ≤ p.es.length) (fun k => p.es.length - k) (0) (by kernel_rfl) (Nat.zero_le _) (by simp) (fun k hI0 J0 hJ0 => ?_)
    cases hd2 : (decide ((k : Int) < ((((p.es.length + 1) - 1) : Nat) : Int))) with
    | false =>
      have hp2 := of_decide_eq_false hd2
      refine run_auto [(104, .bool false)] 11 [false] [0] [1, 3, 4, 8, 9, 15, 19, 148, 149] [0, 1, 3] (st' := ⟨[(1, .slice aa L.length lc), (3, .slice sa xs.length sk), (4, pA b1), (8, .bool false), (9, pA b3), (15, iV m), (19, iV (T p.es.length).2), (148, .agg #[iV p.ll, iV p.lh, iV p.ul, iV p.uh, sV g2 p.es.length cap2]), (149, iV m)], [(b3, aO #[iV p.ll, iV p.lh, iV p.ul, iV p.uh, sV g2 p.es.length cap2] 26), (g2, cO ((trB p L (some ⟨g2, 0, none⟩) cap2).es.flatMap evR ++ sp2) 55), (b1, aO #[iV p.ll, iV p.lh, iV p.ul, iV p.uh, .slice p.ea p.es.length p.ec] 26)]⟩) (acc := [(pA b3, pA b3), (.bool false, .bool false), (.bool (decide ((k : Int) < ((((p.es.length + 1) - 1) : Nat) : Int))), .bool false)]) (by kernel_rfl) (by kernel_rfl) ⟨rfl, rfl, (bo hd2), trivial⟩ ?_
      refine run_ret1 22 #[.agg #[iV p.ll, iV p.lh, iV p.ul, iV p.uh, sV g2 p.es.length cap2], iV m] (some 150) (.tuple #[iV uv, iV ue]) (by kernel_rfl) (fun w1 k1 h1 => (by have h := Until_any (trB p L (some ⟨g2, 0, none⟩) cap2) m w1 ⟨Evs.of_flat (sp := sp2) (h1 (g2, cO ((trB p L (some ⟨g2, 0, none⟩) cap2).es.flatMap evR ++ sp2) 55) (List.mem_of_getElem? (i := 1) (by kernel_rfl))), by show (trB p L (some ⟨g2, 0, none⟩) cap2).es.length ≤ maxLen; rw [trB_len]; exact hp.ln⟩; rw [show (trB p L (some ⟨g2, 0, none⟩) cap2).es.length = p.es.length from trB_len _ _ _ _] at h; rw [show untilR (trB p L (some ⟨g2, 0, none⟩) cap2) m = untilR q m from by rw [hq], huv, hue] at h; exact h)) ?_
      cases hd3 : (ue != 0) with
      | false =>
        have hp3 : ue = 0 := by simpa using hd3
        cases hd4 : (ue == 0) with
        | false =>
          have hp4 : ¬ ue = 0 := by simpa using hd4
          exfalso
          omega
        | true =>
          have hp4 : ue = 0 := by simpa using hd4
          cases hd5 : (decide (uv < 0)) with
          | false =>
            have hp5 := of_decide_eq_false hd5
            cases hd6 : (decide (100 < uv)) with
            | false =>
              have hp6 := of_decide_eq_false hd6
              cases hd7 : (decide (((T p.es.length).2 - (uv * p.uh)) < m)) with
              | false =>
                have hp7 := of_decide_eq_false hd7
                refine run_auto [(154, .bool false), (165, .bool true), (168, .bool false), (171, .bool false), (179, iV (uv * p.uh)), (180, iV ((T p.es.length).2 - (uv * p.uh))), (182, .bool false)] 57 [false] [2] [1, 4, 8, 9, 15, 19, 26, 186, 187, 188] [0, 1, 2] (st' := ⟨[(1, .slice aa L.length lc), (4, pA b1), (8, .bool false), (9, pA b3), (15, iV m), (19, iV (T p.es.length).2), (26, .slice none 0 0), (186, .slice sa xs.length sk), (187, iV (xs.length : Int)), (188, iV 0)], [(b3, aO #[iV p.ll, iV p.lh, iV p.ul, iV p.uh, sV g2 p.es.length cap2] 26), (g2, cO ((trB p L (some ⟨g2, 0, none⟩) cap2).es.flatMap evR ++ sp2) 55), (b1, aO #[iV p.ll, iV p.lh, iV p.ul, iV p.uh, .slice p.ea p.es.length p.ec] 26)]⟩) (acc := [(.bool false, .bool false), (.bool (decide (((T p.es.length).2 - (uv * p.uh)) < m)), .bool false), (iV (IntKind.i64.wrap ((T p.es.length).2 - (uv * p.uh))), iV ((T p.es.length).2 - (uv * p.uh))), (iV (IntKind.i64.wrap (uv * p.uh)), iV (uv * p.uh)), (pA b1, pA b1), (.bool (decide (100 < uv)), .bool false), (.bool (decide (uv < 0)), .bool false), (.bool (ue == 0), .bool true), (.bool (ue != 0), .bool false)]) (by kernel_rfl) (by kernel_rfl) ⟨rfl, (bo hd7), (wr (by omega) (by omega)), (wr (by omega) (by omega)), rfl, (bo hd6), (bo hd5), (bo hd4), (bo hd3), trivial⟩ ?_
                refine run_auto [] 0 [] [] [1, 4, 8, 9, 15, 19, 26, 186, 187, 188] [0, 1, 2] (st' := ⟨[(1, .slice aa L.length lc), (4, pA b1), (8, .bool false), (9, pA b3), (15, iV m), (19, iV (T p.es.length).2), (26, .slice none 0 0), (186, .slice sa xs.length sk), (187, iV (xs.length : Int)), (188, iV 0)], [(b3, aO #[iV p.ll, iV p.lh, iV p.ul, iV p.uh, sV g2 p.es.length cap2] 26), (g2, cO ((trB p L (some ⟨g2, 0, none⟩) cap2).es.flatMap evR ++ sp2) 55), (b1, aO #[iV p.ll, iV p.lh, iV p.ul, iV p.uh, .slice p.ea p.es.length p.ec] 26)]⟩) (acc := []) (by kernel_rfl) (by kernel_rfl) trivial ?_
                refine run_loop (S := fun (v : Nat × Nat × Option (Nat × Nat × List Value)) => match v with | (i, _, none) => ⟨[(1, .slice aa L.length lc), (4, pA b1), (8, .bool false), (9, pA b3), (15, iV m), (19, iV (T p.es.length).2), (26, .slice none 0 0), (186, .slice sa xs.length sk), (187, iV (xs.length : Int)), (188, iV (i : Int))], [(b3, aO #[iV p.ll, iV p.lh, iV p.ul, iV p.uh, sV g2 p.es.length cap2] 26), (g2, cO ((trB p L (some ⟨g2, 0, none⟩) cap2).es.flatMap evR ++ sp2) 55), (b1, aO #[iV p.ll, iV p.lh, iV p.ul, iV p.uh, .slice p.ea p.es.length p.ec] 26)]⟩ | (i, kd, some (gd, cd, sd)) => ⟨[(1, .slice aa L.length lc), (4, pA b1), (8, .bool false), (9, pA b3), (15, iV m), (19, iV (T p.es.length).2), (26, sV gd kd cd), (186, .slice sa xs.length sk), (187, iV (xs.length : Int)), (188, iV (i : Int))], [(gd, cO ((Dl xs i).flatMap inR ++ sd) 3), (b3, aO #[iV p.ll, iV p.lh, iV p.ul, iV p.uh, sV g2 p.es.length cap2] 26), (g2, cO ((trB p L (some ⟨g2, 0, none⟩) cap2).es.flatMap evR ++ sp2) 55), (b1, aO #[iV p.ll, iV p.lh, iV p.ul, iV p.uh, .slice p.ea p.es.length p.ec] 26)]⟩) (fun v => v.1 ≤ xs.length ∧ (Dl xs v.1).length = v.2.1 ∧ match v.2.2 with | none => v.2.1 = 0 | some (g, cap, sp) => 1 ≤ v.2.1 ∧ v.2.1 ≤ cap ∧ cap ≤ maxLen ∧ ((Dl xs v.1).flatMap inR ++ sp).length = cap * 1 ∧ w.heap.size ≤ g) (fun v => xs.length - v.1) ((0, 0, none)) (by kernel_rfl) (⟨Nat.zero_le _, rfl, rfl⟩) (by simp) (fun v hI1 J1 hJ1 => ?_)
                obtain ⟨i, kd, _ | ⟨gd, cd, sd⟩⟩ := v
                · skip
                  obtain ⟨hz1, hz2, hz3⟩ := hI1
                  dsimp only at hz1 hz2 hz3
                  have hzl := Dl_len xs i hz1
                  have hxl2 : xs.length ≤ 2 ^ 63 - 1 := by have h := hxl; simp only [maxLen] at h; exact h
                  cases hd8 : (decide ((i : Int) < (xs.length : Int))) with
                  | false =>
                    have hp8 := of_decide_eq_false hd8
                    have hD : Dl xs i = D := by rw [show i = xs.length by omega]; exact hDe
                    rw [hD] at hz2
                    have hDk := hz2
                    have hDn : D = [] := List.eq_nil_of_length_eq_zero (by rw [hz2, hz3])
                    refine run_auto [(189, .bool false)] 12 [false] [0] [1, 4, 8, 9, 15, 19, 26, 203, 204, 205] [0, 1, 2] (st' := ⟨[(1, .slice aa L.length lc), (4, pA b1), (8, .bool false), (9, pA b3), (15, iV m), (19, iV (T p.es.length).2), (26, .slice none 0 0), (203, .agg #[iV p.ll, iV p.lh, iV p.ul, iV p.uh, sV g2 p.es.length cap2]), (204, iV m), (205, .slice none 0 0)], [(b3, aO #[iV p.ll, iV p.lh, iV p.ul, iV p.uh, sV g2 p.es.length cap2] 26), (g2, cO ((trB p L (some ⟨g2, 0, none⟩) cap2).es.flatMap evR ++ sp2) 55), (b1, aO #[iV p.ll, iV p.lh, iV p.ul, iV p.uh, .slice p.ea p.es.length p.ec] 26)]⟩) (acc := [(pA b3, pA b3), (.bool false, .bool false), (.bool (decide ((i : Int) < (xs.length : Int))), .bool false)]) (by kernel_rfl) (by kernel_rfl) ⟨rfl, rfl, (bo hd8), trivial⟩ ?_
                    refine run_ret1 24 #[.agg #[iV p.ll, iV p.lh, iV p.ul, iV p.uh, sV g2 p.es.length cap2], iV m, .slice none 0 0] (some 206) (.tuple #[iV dv, iV de]) (by kernel_rfl) (fun w1 k1 h1 => (by have h := Day_any (trB p L (some ⟨g2, 0, none⟩) cap2) m [] none 0 w1 ⟨Evs.of_flat (sp := sp2) (h1 (g2, cO ((trB p L (some ⟨g2, 0, none⟩) cap2).es.flatMap evR ++ sp2) 55) (List.mem_of_getElem? (i := 1) (by kernel_rfl))), by show (trB p L (some ⟨g2, 0, none⟩) cap2).es.length ≤ maxLen; rw [trB_len]; exact hp.ln⟩ Ins.nil (Nat.zero_le _); rw [show (trB p L (some ⟨g2, 0, none⟩) cap2).es.length = p.es.length from trB_len _ _ _ _] at h; rw [show dayR (trB p L (some ⟨g2, 0, none⟩) cap2) m [] = dayR q m D from by rw [hq, hDn], hdv, hde] at h; exact h)) ?_
                    cases hd9 : (de != 0) with
                    | false =>
                      have hp9 : de = 0 := by simpa using hd9
                      cases hd10 : (de == 0) with
                      | false =>
                        have hp10 : ¬ de = 0 := by simpa using hd10
                        exfalso
                        omega
                      | true =>
                        have hp10 : de = 0 := by simpa using hd10
                        cases hd11 : (decide (dv < 0)) with
                        | false =>
                          have hp11 := of_decide_eq_false hd11
                          cases hd12 : (decide (0 ≤ dv)) with
                          | false =>
                            have hp12 := of_decide_eq_false hd12
                            refine run_auto [(210, .bool false), (221, .bool true), (224, .bool false), (229, .bool false)] 40 [false] [] [4, 8, 9, 15, 19, 26, 29, 30, 233, 234] [0, 1, 2] (st' := ⟨[(4, pA b1), (8, .bool false), (9, pA b3), (15, iV m), (19, iV (T p.es.length).2), (26, .slice none 0 0), (29, iV dv), (30, iV de), (233, iV (T p.es.length).2), (234, .slice aa L.length lc)], [(b3, aO #[iV p.ll, iV p.lh, iV p.ul, iV p.uh, sV g2 p.es.length cap2] 26), (g2, cO ((trB p L (some ⟨g2, 0, none⟩) cap2).es.flatMap evR ++ sp2) 55), (b1, aO #[iV p.ll, iV p.lh, iV p.ul, iV p.uh, .slice p.ea p.es.length p.ec] 26)]⟩) (acc := [(.bool false, .bool false), (.bool (decide (0 ≤ dv)), .bool false), (.bool (decide (dv < 0)), .bool false), (.bool (de == 0), .bool true), (.bool (de != 0), .bool false)]) (by kernel_rfl) (by kernel_rfl) ⟨rfl, (bo hd12), (bo hd11), (bo hd10), (bo hd9), trivial⟩ ?_
                            refine run_nwl 31 #[.slice aa L.length lc] (some 235) (α := Nat × Nat) (fun x => .func (.func 88) #[] #[.pointer (some ⟨(x.1), 0, none⟩), .pointer (some ⟨(x.2), 0, none⟩)]) (fun x => [((x.1), aO #[iV 0] 3), ((x.2), aO #[.slice aa L.length lc] 43)]) (fun x => True) (by kernel_rfl) (fun x p hp => by simp only [List.mem_cons, List.not_mem_nil, or_false] at hp; rcases hp with rfl | rfl <;> rfl) (fun w1 k1 h1 => draws_any L aa lc w1) (fun x hI6 hn6 => ?_)
                            obtain ⟨a6, b6⟩ := x
                            dsimp only at hI6 hn6
                            have ha6 := hn6 _ (List.mem_of_getElem? (i := 0) rfl)
                            have hb6 := hn6 _ (List.mem_of_getElem? (i := 1) rfl)
                            refine run_auto [] 11 [] [] [4, 8, 9, 15, 19, 29, 30, 31, 32, 236, 237, 238] [0, 1, 2, 3, 4] (st' := ⟨[(4, pA b1), (8, .bool false), (9, pA b3), (15, iV m), (19, iV (T p.es.length).2), (29, iV dv), (30, iV de), (31, iV (T p.es.length).2), (32, .func (.func 88) #[] #[pA a6, pA b6]), (236, .slice none 0 0), (237, iV 0), (238, iV 0)], [(a6, aO #[iV 0] 3), (b6, aO #[.slice aa L.length lc] 43), (b3, aO #[iV p.ll, iV p.lh, iV p.ul, iV p.uh, sV g2 p.es.length cap2] 26), (g2, cO ((trB p L (some ⟨g2, 0, none⟩) cap2).es.flatMap evR ++ sp2) 55), (b1, aO #[iV p.ll, iV p.lh, iV p.ul, iV p.uh, .slice p.ea p.es.length p.ec] 26)]⟩) (acc := []) (by kernel_rfl) (by kernel_rfl) trivial ?_
                            refine run_auto [] 0 [] [] [4, 8, 9, 15, 19, 29, 30, 31, 32, 236, 237, 238] [0, 1, 2, 3, 4] (st' := ⟨[(4, pA b1), (8, .bool false), (9, pA b3), (15, iV m), (19, iV (T p.es.length).2), (29, iV dv), (30, iV de), (31, iV (T p.es.length).2), (32, .func (.func 88) #[] #[pA a6, pA b6]), (236, .slice none 0 0), (237, iV 0), (238, iV 0)], [(a6, aO #[iV 0] 3), (b6, aO #[.slice aa L.length lc] 43), (b3, aO #[iV p.ll, iV p.lh, iV p.ul, iV p.uh, sV g2 p.es.length cap2] 26), (g2, cO ((trB p L (some ⟨g2, 0, none⟩) cap2).es.flatMap evR ++ sp2) 55), (b1, aO #[iV p.ll, iV p.lh, iV p.ul, iV p.uh, .slice p.ea p.es.length p.ec] 26)]⟩) (acc := []) (by kernel_rfl) (by kernel_rfl) trivial ?_
                            refine run_loop (S := fun (c : Nat) => ⟨[(4, pA b1), (8, .bool false), (9, pA b3), (15, iV m), (19, iV (T p.es.length).2), (29, iV dv), (30, iV de), (31, iV (N c).2), (32, .func (.func 88) #[] #[pA a6, pA b6]), (236, .slice none 0 0), (237, iV 0), (238, iV (c : Int))], [(a6, aO #[iV ((N c).1 : Int)] 3), (b6, aO #[.slice aa L.length lc] 43), (b3, aO #[iV p.ll, iV p.lh, iV p.ul, iV p.uh, sV g2 p.es.length cap2] 26), (g2, cO ((trB p L (some ⟨g2, 0, none⟩) cap2).es.flatMap evR ++ sp2) 55), (b1, aO #[iV p.ll, iV p.lh, iV p.ul, iV p.uh, .slice p.ea p.es.length p.ec] 26)]⟩) (fun c => c ≤ 0) (fun c => 0 - c) (0) (by kernel_rfl) (Nat.zero_le _) (by rw [← hN]; kernel_rfl) (fun c hI2 J2 hJ2 => ?_)
                            have hNc := hNb c (by omega)
                            have hnb := now_bd hqF hD10 hDv (i := c) (by omega)
                            cases hd13 : (decide ((c : Int) < 0)) with
                            | false =>
                              have hp13 := of_decide_eq_false hd13
                              refine run_auto [(239, .bool false)] 8 [false] [] [8, 9, 19] [2, 3] (st' := ⟨[(8, .bool false), (9, pA b3), (19, iV (T p.es.length).2)], [(b3, aO #[iV p.ll, iV p.lh, iV p.ul, iV p.uh, sV g2 p.es.length cap2] 26), (g2, cO ((trB p L (some ⟨g2, 0, none⟩) cap2).es.flatMap evR ++ sp2) 55)]⟩) (acc := [(.bool false, .bool false), (.bool (decide ((c : Int) < 0)), .bool false)]) (by kernel_rfl) (by kernel_rfl) ⟨rfl, (bo hd13), trivial⟩ ?_
                              refine drawW 10 [{ val := fun _ => .agg #[iV p.ll, iV p.lh, iV p.ul, iV p.uh, sV g2 p.es.length cap2], slots := [9], reads := [0] },
                                                              { val := fun _ => iV (T p.es.length).2, slots := [19] },
                                                              { val := fun _ => iV (T p.es.length).2, slots := [19] },
                                                              { val := fun _ => .agg #[iV (T p.es.length).2, iV (T p.es.length).2], slots := [268, 269] },
                                                              { val := fun _ => .tuple #[iV gr, iV 0], slots := [267, 270], reads := [1] },
                                                              { val := fun _ => .tuple #[iV gr, iV 0], slots := [271] },
                                                              { val := fun _ => iV gr, slots := [266] },
                                                              { val := fun _ => iV 0, slots := [266] },
                                                              { val := fun _ => iV gr, slots := [272] },
                                                              { val := fun _ => iV 0, slots := [273] }] [[], [], [], [1, 2], [0, 1, 2, 3], [0, 1, 2, 3, 4], [0, 1, 2, 3, 4, 5], [0, 1, 2, 3, 4, 5], [0, 1, 2, 3, 4, 5, 6], [0, 1, 2, 3, 4, 5, 6, 7, 8]] (by kernel_rfl) (by kernel_rfl) (by kernel_rfl) (by kernel_rfl) [8, 35, 36] [] (by kernel_rfl)
                                                              ⟨⟨⟨⟨⟨⟨⟨⟨⟨⟨trivial,
                                                              tri_quietW (fun β => []) [0] [0] (fun β => [(pA b3, pA b3)]) (by kernel_rfl) (fun β extra => by kernel_rfl) (by kernel_rfl) (fun β => ⟨rfl, trivial⟩)⟩,
                                                              tri_quietW (fun β => []) [] [] (fun β => []) (by kernel_rfl) (fun β extra => by kernel_rfl) (by kernel_rfl) (fun β => trivial)⟩,
                                                              tri_quietW (fun β => []) [] [] (fun β => []) (by kernel_rfl) (fun β extra => by kernel_rfl) (by kernel_rfl) (fun β => trivial)⟩,
                                                              tri_callVW (fun β => .agg #[iV (T p.es.length).2, iV (T p.es.length).2]) (fun β => by kernel_rfl) 32 (fun β => #[iV (T p.es.length).2, iV (T p.es.length).2]) (by kernel_rfl) (fun β extra => by kernel_rfl) (fun β => by kernel_rfl) (fun β w1 k1 h1 => span_any (T p.es.length).2 (T p.es.length).2 w1)⟩,
                                                              tri_callVW (fun β => .tuple #[iV gr, iV 0]) (fun β => by kernel_rfl) 20 (fun β => #[.agg #[iV p.ll, iV p.lh, iV p.ul, iV p.uh, sV g2 p.es.length cap2], .agg #[iV (T p.es.length).2, iV (T p.es.length).2]]) (by kernel_rfl) (fun β extra => by kernel_rfl) (fun β => by kernel_rfl) (fun β w1 k1 h1 => (by have h := Fits_any (trB p L (some ⟨g2, 0, none⟩) cap2) ((T p.es.length).2, (T p.es.length).2) w1 ⟨Evs.of_flat (sp := sp2) (h1 (g2, cO ((trB p L (some ⟨g2, 0, none⟩) cap2).es.flatMap evR ++ sp2) 55) (List.mem_of_getElem? (i := 0) (by kernel_rfl))), by show (trB p L (some ⟨g2, 0, none⟩) cap2).es.length ≤ maxLen; rw [trB_len]; exact hp.ln⟩; rw [show (trB p L (some ⟨g2, 0, none⟩) cap2).es.length = p.es.length from trB_len _ _ _ _] at h; rw [show fitsR (trB p L (some ⟨g2, 0, none⟩) cap2) ((T p.es.length).2, (T p.es.length).2) = .inr gr from by rw [hq]; exact fitsR_ok hqF hqc hs1 (by rw [hql]; exact hgr)] at h; exact h))⟩,
                                                              tri_quietW (fun β => []) [] [] (fun β => []) (by kernel_rfl) (fun β extra => by kernel_rfl) (by kernel_rfl) (fun β => trivial)⟩,
                                                              tri_quietW (fun β => []) [] [] (fun β => []) (by kernel_rfl) (fun β extra => by kernel_rfl) (by kernel_rfl) (fun β => trivial)⟩,
                                                              tri_quietW (fun β => []) [] [] (fun β => []) (by kernel_rfl) (fun β extra => by kernel_rfl) (by kernel_rfl) (fun β => trivial)⟩,
                                                              tri_quietW (fun β => []) [] [] (fun β => []) (by kernel_rfl) (fun β extra => by kernel_rfl) (by kernel_rfl) (fun β => trivial)⟩,
                                                              tri_quietW (fun β => []) [] [] (fun β => []) (by kernel_rfl) (fun β extra => by kernel_rfl) (by kernel_rfl) (fun β => trivial)⟩
                                                              (fun β => ⟨[(8, .bool false), (35, iV gr), (36, iV 0)], []⟩) (fun β => by kernel_rfl) (fun β7 => ?_)
                              cases hd14 : (gr != 0) with
                              | false =>
                                have hp14 : gr = 0 := by simpa using hd14
                                exfalso
                                omega
                              | true =>
                                have hp14 : ¬ gr = 0 := by simpa using hd14
                                refine run_auto [(275, .bool true), (278, .bool true)] 9 [] [] [8, 280] [] (st' := ⟨[(8, .bool false), (280, .bool true)], []⟩) (acc := [(.bool (gr != 0), .bool true), (.bool true, .bool true)]) (by kernel_rfl) (by kernel_rfl) ⟨(bo hd14), rfl, trivial⟩ ?_
                                refine run_ret1 13 #[] (some 281) (.bool true) (by kernel_rfl) (fun w1 k1 h1 => awake_any w1) ?_
                                refine run_auto [] 3 [] [] [8] [] (st' := ⟨[(8, .bool true)], []⟩) (acc := []) (by kernel_rfl) (by kernel_rfl) trivial ?_
                                refine run_end (fn := f5) rfl (Nat.le_refl _) (by kernel_rfl) [] [.bool true] (e := []) (by kernel_rfl) trivial (fun w1 k1 h1 => ?_)
                                exact ⟨rfl, k1.keeps (fun _ h => h)⟩
                            | true =>
                              have hp13 := of_decide_eq_true hd13
                              exfalso
                              omega
                          | true =>
                            have hp12 := of_decide_eq_true hd12
                            exfalso
                            omega
                        | true =>
                          have hp11 := of_decide_eq_true hd11
                          exfalso
                          omega
                    | true =>
                      have hp9 : ¬ de = 0 := by simpa using hd9
                      cases hd10 : (de != 4) with
                      | false =>
                        have hp10 : de = 4 := by simpa using hd10
                        cases hd11 : (dv != 0) with
                        | false =>
                          have hp11 : dv = 0 := by simpa using hd11
                          cases hd12 : (de == 0) with
                          | false =>
                            have hp12 : ¬ de = 0 := by simpa using hd12
                            refine run_auto [(210, .bool true), (213, .bool false), (216, .bool false), (221, .bool false)] 40 [false] [] [4, 8, 9, 15, 19, 26, 29, 30, 233, 234] [0, 1, 2] (st' := ⟨[(4, pA b1), (8, .bool false), (9, pA b3), (15, iV m), (19, iV (T p.es.length).2), (26, .slice none 0 0), (29, iV dv), (30, iV de), (233, iV (T p.es.length).2), (234, .slice aa L.length lc)], [(b3, aO #[iV p.ll, iV p.lh, iV p.ul, iV p.uh, sV g2 p.es.length cap2] 26), (g2, cO ((trB p L (some ⟨g2, 0, none⟩) cap2).es.flatMap evR ++ sp2) 55), (b1, aO #[iV p.ll, iV p.lh, iV p.ul, iV p.uh, .slice p.ea p.es.length p.ec] 26)]⟩) (acc := [(.bool false, .bool false), (.bool (de == 0), .bool false), (.bool (dv != 0), .bool false), (.bool (de != 4), .bool false), (.bool (de != 0), .bool true)]) (by kernel_rfl) (by kernel_rfl) ⟨rfl, (bo hd12), (bo hd11), (bo hd10), (bo hd9), trivial⟩ ?_
                            refine run_nwl 31 #[.slice aa L.length lc] (some 235) (α := Nat × Nat) (fun x => .func (.func 88) #[] #[.pointer (some ⟨(x.1), 0, none⟩), .pointer (some ⟨(x.2), 0, none⟩)]) (fun x => [((x.1), aO #[iV 0] 3), ((x.2), aO #[.slice aa L.length lc] 43)]) (fun x => True) (by kernel_rfl) (fun x p hp => by simp only [List.mem_cons, List.not_mem_nil, or_false] at hp; rcases hp with rfl | rfl <;> rfl) (fun w1 k1 h1 => draws_any L aa lc w1) (fun x hI6 hn6 => ?_)
                            obtain ⟨a6, b6⟩ := x
                            dsimp only at hI6 hn6
                            have ha6 := hn6 _ (List.mem_of_getElem? (i := 0) rfl)
                            have hb6 := hn6 _ (List.mem_of_getElem? (i := 1) rfl)
                            refine run_auto [] 11 [] [] [4, 8, 9, 15, 19, 29, 30, 31, 32, 236, 237, 238] [0, 1, 2, 3, 4] (st' := ⟨[(4, pA b1), (8, .bool false), (9, pA b3), (15, iV m), (19, iV (T p.es.length).2), (29, iV dv), (30, iV de), (31, iV (T p.es.length).2), (32, .func (.func 88) #[] #[pA a6, pA b6]), (236, .slice none 0 0), (237, iV 0), (238, iV 0)], [(a6, aO #[iV 0] 3), (b6, aO #[.slice aa L.length lc] 43), (b3, aO #[iV p.ll, iV p.lh, iV p.ul, iV p.uh, sV g2 p.es.length cap2] 26), (g2, cO ((trB p L (some ⟨g2, 0, none⟩) cap2).es.flatMap evR ++ sp2) 55), (b1, aO #[iV p.ll, iV p.lh, iV p.ul, iV p.uh, .slice p.ea p.es.length p.ec] 26)]⟩) (acc := []) (by kernel_rfl) (by kernel_rfl) trivial ?_
                            refine run_auto [] 0 [] [] [4, 8, 9, 15, 19, 29, 30, 31, 32, 236, 237, 238] [0, 1, 2, 3, 4] (st' := ⟨[(4, pA b1), (8, .bool false), (9, pA b3), (15, iV m), (19, iV (T p.es.length).2), (29, iV dv), (30, iV de), (31, iV (T p.es.length).2), (32, .func (.func 88) #[] #[pA a6, pA b6]), (236, .slice none 0 0), (237, iV 0), (238, iV 0)], [(a6, aO #[iV 0] 3), (b6, aO #[.slice aa L.length lc] 43), (b3, aO #[iV p.ll, iV p.lh, iV p.ul, iV p.uh, sV g2 p.es.length cap2] 26), (g2, cO ((trB p L (some ⟨g2, 0, none⟩) cap2).es.flatMap evR ++ sp2) 55), (b1, aO #[iV p.ll, iV p.lh, iV p.ul, iV p.uh, .slice p.ea p.es.length p.ec] 26)]⟩) (acc := []) (by kernel_rfl) (by kernel_rfl) trivial ?_
                            refine run_loop (S := fun (c : Nat) => ⟨[(4, pA b1), (8, .bool false), (9, pA b3), (15, iV m), (19, iV (T p.es.length).2), (29, iV dv), (30, iV de), (31, iV (N c).2), (32, .func (.func 88) #[] #[pA a6, pA b6]), (236, .slice none 0 0), (237, iV 0), (238, iV (c : Int))], [(a6, aO #[iV ((N c).1 : Int)] 3), (b6, aO #[.slice aa L.length lc] 43), (b3, aO #[iV p.ll, iV p.lh, iV p.ul, iV p.uh, sV g2 p.es.length cap2] 26), (g2, cO ((trB p L (some ⟨g2, 0, none⟩) cap2).es.flatMap evR ++ sp2) 55), (b1, aO #[iV p.ll, iV p.lh, iV p.ul, iV p.uh, .slice p.ea p.es.length p.ec] 26)]⟩) (fun c => c ≤ 0) (fun c => 0 - c) (0) (by kernel_rfl) (Nat.zero_le _) (by rw [← hN]; kernel_rfl) (fun c hI2 J2 hJ2 => ?_)
                            have hNc := hNb c (by omega)
                            have hnb := now_bd hqF hD10 hDv (i := c) (by omega)
                            cases hd13 : (decide ((c : Int) < 0)) with
                            | false =>
                              have hp13 := of_decide_eq_false hd13
                              refine run_auto [(239, .bool false)] 8 [false] [] [8, 9, 19] [2, 3] (st' := ⟨[(8, .bool false), (9, pA b3), (19, iV (T p.es.length).2)], [(b3, aO #[iV p.ll, iV p.lh, iV p.ul, iV p.uh, sV g2 p.es.length cap2] 26), (g2, cO ((trB p L (some ⟨g2, 0, none⟩) cap2).es.flatMap evR ++ sp2) 55)]⟩) (acc := [(.bool false, .bool false), (.bool (decide ((c : Int) < 0)), .bool false)]) (by kernel_rfl) (by kernel_rfl) ⟨rfl, (bo hd13), trivial⟩ ?_
                              refine drawW 10 [{ val := fun _ => .agg #[iV p.ll, iV p.lh, iV p.ul, iV p.uh, sV g2 p.es.length cap2], slots := [9], reads := [0] },
                                                              { val := fun _ => iV (T p.es.length).2, slots := [19] },
                                                              { val := fun _ => iV (T p.es.length).2, slots := [19] },
                                                              { val := fun _ => .agg #[iV (T p.es.length).2, iV (T p.es.length).2], slots := [268, 269] },
                                                              { val := fun _ => .tuple #[iV gr, iV 0], slots := [267, 270], reads := [1] },
                                                              { val := fun _ => .tuple #[iV gr, iV 0], slots := [271] },
                                                              { val := fun _ => iV gr, slots := [266] },
                                                              { val := fun _ => iV 0, slots := [266] },
                                                              { val := fun _ => iV gr, slots := [272] },
                                                              { val := fun _ => iV 0, slots := [273] }] [[], [], [], [1, 2], [0, 1, 2, 3], [0, 1, 2, 3, 4], [0, 1, 2, 3, 4, 5], [0, 1, 2, 3, 4, 5], [0, 1, 2, 3, 4, 5, 6], [0, 1, 2, 3, 4, 5, 6, 7, 8]] (by kernel_rfl) (by kernel_rfl) (by kernel_rfl) (by kernel_rfl) [8, 35, 36] [] (by kernel_rfl)
                                                              ⟨⟨⟨⟨⟨⟨⟨⟨⟨⟨trivial,
                                                              tri_quietW (fun β => []) [0] [0] (fun β => [(pA b3, pA b3)]) (by kernel_rfl) (fun β extra => by kernel_rfl) (by kernel_rfl) (fun β => ⟨rfl, trivial⟩)⟩,
                                                              tri_quietW (fun β => []) [] [] (fun β => []) (by kernel_rfl) (fun β extra => by kernel_rfl) (by kernel_rfl) (fun β => trivial)⟩,
                                                              tri_quietW (fun β => []) [] [] (fun β => []) (by kernel_rfl) (fun β extra => by kernel_rfl) (by kernel_rfl) (fun β => trivial)⟩,
                                                              tri_callVW (fun β => .agg #[iV (T p.es.length).2, iV (T p.es.length).2]) (fun β => by kernel_rfl) 32 (fun β => #[iV (T p.es.length).2, iV (T p.es.length).2]) (by kernel_rfl) (fun β extra => by kernel_rfl) (fun β => by kernel_rfl) (fun β w1 k1 h1 => span_any (T p.es.length).2 (T p.es.length).2 w1)⟩,
                                                              tri_callVW (fun β => .tuple #[iV gr, iV 0]) (fun β => by kernel_rfl) 20 (fun β => #[.agg #[iV p.ll, iV p.lh, iV p.ul, iV p.uh, sV g2 p.es.length cap2], .agg #[iV (T p.es.length).2, iV (T p.es.length).2]]) (by kernel_rfl) (fun β extra => by kernel_rfl) (fun β => by kernel_rfl) (fun β w1 k1 h1 => (by have h := Fits_any (trB p L (some ⟨g2, 0, none⟩) cap2) ((T p.es.length).2, (T p.es.length).2) w1 ⟨Evs.of_flat (sp := sp2) (h1 (g2, cO ((trB p L (some ⟨g2, 0, none⟩) cap2).es.flatMap evR ++ sp2) 55) (List.mem_of_getElem? (i := 0) (by kernel_rfl))), by show (trB p L (some ⟨g2, 0, none⟩) cap2).es.length ≤ maxLen; rw [trB_len]; exact hp.ln⟩; rw [show (trB p L (some ⟨g2, 0, none⟩) cap2).es.length = p.es.length from trB_len _ _ _ _] at h; rw [show fitsR (trB p L (some ⟨g2, 0, none⟩) cap2) ((T p.es.length).2, (T p.es.length).2) = .inr gr from by rw [hq]; exact fitsR_ok hqF hqc hs1 (by rw [hql]; exact hgr)] at h; exact h))⟩,
                                                              tri_quietW (fun β => []) [] [] (fun β => []) (by kernel_rfl) (fun β extra => by kernel_rfl) (by kernel_rfl) (fun β => trivial)⟩,
                                                              tri_quietW (fun β => []) [] [] (fun β => []) (by kernel_rfl) (fun β extra => by kernel_rfl) (by kernel_rfl) (fun β => trivial)⟩,
                                                              tri_quietW (fun β => []) [] [] (fun β => []) (by kernel_rfl) (fun β extra => by kernel_rfl) (by kernel_rfl) (fun β => trivial)⟩,
                                                              tri_quietW (fun β => []) [] [] (fun β => []) (by kernel_rfl) (fun β extra => by kernel_rfl) (by kernel_rfl) (fun β => trivial)⟩,
                                                              tri_quietW (fun β => []) [] [] (fun β => []) (by kernel_rfl) (fun β extra => by kernel_rfl) (by kernel_rfl) (fun β => trivial)⟩
                                                              (fun β => ⟨[(8, .bool false), (35, iV gr), (36, iV 0)], []⟩) (fun β => by kernel_rfl) (fun β7 => ?_)
                              cases hd14 : (gr != 0) with
                              | false =>
                                have hp14 : gr = 0 := by simpa using hd14
                                exfalso
                                omega
                              | true =>
                                have hp14 : ¬ gr = 0 := by simpa using hd14
                                refine run_auto [(275, .bool true), (278, .bool true)] 9 [] [] [8, 280] [] (st' := ⟨[(8, .bool false), (280, .bool true)], []⟩) (acc := [(.bool (gr != 0), .bool true), (.bool true, .bool true)]) (by kernel_rfl) (by kernel_rfl) ⟨(bo hd14), rfl, trivial⟩ ?_
                                refine run_ret1 13 #[] (some 281) (.bool true) (by kernel_rfl) (fun w1 k1 h1 => awake_any w1) ?_
                                refine run_auto [] 3 [] [] [8] [] (st' := ⟨[(8, .bool true)], []⟩) (acc := []) (by kernel_rfl) (by kernel_rfl) trivial ?_
                                refine run_end (fn := f5) rfl (Nat.le_refl _) (by kernel_rfl) [] [.bool true] (e := []) (by kernel_rfl) trivial (fun w1 k1 h1 => ?_)
                                exact ⟨rfl, k1.keeps (fun _ h => h)⟩
                            | true =>
                              have hp13 := of_decide_eq_true hd13
                              exfalso
                              omega
                          | true =>
                            have hp12 : de = 0 := by simpa using hd12
                            exfalso
                            omega
                        | true =>
                          have hp11 : ¬ dv = 0 := by simpa using hd11
                          exfalso
                          omega
                      | true =>
                        have hp10 : ¬ de = 4 := by simpa using hd10
                        exfalso
                        omega
                  | true =>
                    have hp8 := of_decide_eq_true hd8
                    have hil : i < xs.length := by omega
                    obtain ⟨bx, ox, hba, hcx⟩ := hB (by intro h; rw [h] at hil; cases hil)
                    have hc := hcx i hil
                    refine run_auto [(189, .bool true)] 12 [true] [] [1, 4, 8, 9, 15, 19, 26, 186, 187, 188, 190] [0, 1, 2] (st' := ⟨[(1, .slice aa L.length lc), (4, pA b1), (8, .bool false), (9, pA b3), (15, iV m), (19, iV (T p.es.length).2), (26, .slice none 0 0), (186, .slice sa xs.length sk), (187, iV (xs.length : Int)), (188, iV (i : Int)), (190, iV (i : Int))], [(b3, aO #[iV p.ll, iV p.lh, iV p.ul, iV p.uh, sV g2 p.es.length cap2] 26), (g2, cO ((trB p L (some ⟨g2, 0, none⟩) cap2).es.flatMap evR ++ sp2) 55), (b1, aO #[iV p.ll, iV p.lh, iV p.ul, iV p.uh, .slice p.ea p.es.length p.ec] 26)]⟩) (acc := [(.bool true, .bool true), (.bool (decide ((i : Int) < (xs.length : Int))), .bool true)]) (by kernel_rfl) (by kernel_rfl) ⟨rfl, (bo hd8), trivial⟩ ?_
                    refine run_v (Instr.indexAt 45 (.slice sa xs.length sk) (iV (i : Int)) >>= fun v => pure (Next.value v)) (some 191) (.pointer (some ⟨bx, ox + i, none⟩)) (by kernel_rfl) (fun w1 k1 h1 => (by rw [hba]; exact idx_off (e := 5) (n := 1) (by kernel_rfl) (by kernel_rfl) bx ox xs.length sk .i64 i hil (ox + i) (by omega) w1)) ?_
                    refine run_v (Instr.loadAt 5 (.pointer (some ⟨bx, ox + i, none⟩)) >>= fun v => pure (Next.value v)) (some 192) (.int .u8 (elI xs i)) (by kernel_rfl) (fun w1 k1 h1 => load_in (off := 0) k1 (fun h => h) [.int .u8 (elI xs i)] (c1 hc.1) (by kernel_rfl)) ?_
                    cases hd9 : (decide ((i : Int) < 10)) with
                    | false =>
                      have hp9 := of_decide_eq_false hd9
                      refine run_auto [(194, .bool false), (201, iV ((i + 1 : Nat) : Int))] 15 [false] [] [1, 4, 8, 9, 15, 19, 26, 186, 187, 188] [0, 1, 2] (st' := ⟨[(1, .slice aa L.length lc), (4, pA b1), (8, .bool false), (9, pA b3), (15, iV m), (19, iV (T p.es.length).2), (26, .slice none 0 0), (186, .slice sa xs.length sk), (187, iV (xs.length : Int)), (188, iV ((i + 1 : Nat) : Int))], [(b3, aO #[iV p.ll, iV p.lh, iV p.ul, iV p.uh, sV g2 p.es.length cap2] 26), (g2, cO ((trB p L (some ⟨g2, 0, none⟩) cap2).es.flatMap evR ++ sp2) 55), (b1, aO #[iV p.ll, iV p.lh, iV p.ul, iV p.uh, .slice p.ea p.es.length p.ec] 26)]⟩) (acc := [(iV (IntKind.i64.wrap ((i : Int) + 1)), iV ((i + 1 : Nat) : Int)), (.bool false, .bool false), (.bool (decide ((i : Int) < 10)), .bool false)]) (by kernel_rfl) (by kernel_rfl) ⟨(wr (by omega) (by omega)), rfl, (bo hd9), trivial⟩ ?_
                      have hst := Dl_no (xs := xs) (i := i) (by omega)
                      have hj := hJ1 ((i + 1, 0, none)) (⟨by dsimp only; omega, by rw [hst, hz2, hz3], rfl⟩) (by dsimp only; omega)
                      dsimp only at hj
                      exact run_round (by kernel_rfl) hj
                    | true =>
                      have hp9 := of_decide_eq_true hd9
                      refine run_auto [(194, .bool true), (197, iV (elI xs i)), (198, iV (elI xs i % 21))] 14 [true] [] [1, 4, 8, 9, 15, 19, 26, 186, 187, 188, 195, 198] [0, 1, 2] (st' := ⟨[(1, .slice aa L.length lc), (4, pA b1), (8, .bool false), (9, pA b3), (15, iV m), (19, iV (T p.es.length).2), (26, .slice none 0 0), (186, .slice sa xs.length sk), (187, iV (xs.length : Int)), (188, iV (i : Int)), (195, .slice none 0 0), (198, iV (elI xs i % 21))], [(b3, aO #[iV p.ll, iV p.lh, iV p.ul, iV p.uh, sV g2 p.es.length cap2] 26), (g2, cO ((trB p L (some ⟨g2, 0, none⟩) cap2).es.flatMap evR ++ sp2) 55), (b1, aO #[iV p.ll, iV p.lh, iV p.ul, iV p.uh, .slice p.ea p.es.length p.ec] 26)]⟩) (acc := [(iV (Int.tmod (elI xs i) 21), iV (elI xs i % 21)), (iV (IntKind.i64.wrap (elI xs i)), iV (elI xs i)), (.bool true, .bool true), (.bool (decide ((i : Int) < 10)), .bool true)]) (by kernel_rfl) (by kernel_rfl) ⟨(rm 21 (by omega)), (wr (by omega) (by omega)), rfl, (bo hd9), trivial⟩ ?_
                      refine run_new (aO #[iV (elI xs i % 21)] 3) (fun b6 => sV b6 1 1) (some 199) (fun _ => by kernel_rfl) (fun b6 hb6 => ?_)
                      refine run_app_none (t := 38) (ty := 38) (e := 3) (n := 1) (z := (iV 0)) (by kernel_rfl) (by kernel_rfl) (by kernel_rfl) rfl (by kernel_rfl) inR inR_len (some 200) 1 1 ([(elI xs i % 21)] : List Int) ⟨b6, 0, none⟩ (by first | rfl | omega | (simp; done) | (simp; omega)) (by omega) (by kernel_rfl) (fun w1 k1 h1 jq uq hu => by rw [add_none, Nat.zero_add]; exact cells_of_heap (h1 (b6, aO #[iV (elI xs i % 21)] 3) (List.mem_of_getElem? (i := 0) (by kernel_rfl))) jq uq hu) (by omega) (fun b7 cap7 sp7 hb7 hqb7 hmb7 hlb7 => ?_)
                      refine run_auto [(201, iV ((i + 1 : Nat) : Int))] 7 [] [] [1, 4, 8, 9, 15, 19, 26, 186, 187, 188] [0, 2, 3, 4] (st' := ⟨[(1, .slice aa L.length lc), (4, pA b1), (8, .bool false), (9, pA b3), (15, iV m), (19, iV (T p.es.length).2), (26, sV b7 1 cap7), (186, .slice sa xs.length sk), (187, iV (xs.length : Int)), (188, iV ((i + 1 : Nat) : Int))], [(b7, cO ((([(elI xs i % 21)] : List Int)).flatMap inR ++ sp7) 3), (b3, aO #[iV p.ll, iV p.lh, iV p.ul, iV p.uh, sV g2 p.es.length cap2] 26), (g2, cO ((trB p L (some ⟨g2, 0, none⟩) cap2).es.flatMap evR ++ sp2) 55), (b1, aO #[iV p.ll, iV p.lh, iV p.ul, iV p.uh, .slice p.ea p.es.length p.ec] 26)]⟩) (acc := [(iV (IntKind.i64.wrap ((i : Int) + 1)), iV ((i + 1 : Nat) : Int))]) (by kernel_rfl) (by kernel_rfl) ⟨(wr (by omega) (by omega)), trivial⟩ ?_
                      have hst := Dl_yes hil (show i < 10 by omega)
                      have e0 : Dl xs i = [] := List.eq_nil_of_length_eq_zero (by rw [hz2, hz3])
                      rw [e0, List.nil_append] at hst
                      have hj := hJ1 ((i + 1, 1, some (b7, cap7, sp7))) (⟨by dsimp only; omega, by rw [hst]; rfl, by dsimp only; omega, hqb7, hmb7, by rw [hst]; exact hlb7, hb7⟩) (by dsimp only; omega)
                      dsimp only at hj
                      rw [hst] at hj
                      exact run_round (by kernel_rfl) hj
                · skip
                  obtain ⟨hz1, hz2, hz3⟩ := hI1
                  dsimp only at hz1 hz2 hz3
                  have hzl := Dl_len xs i hz1
                  have hxl2 : xs.length ≤ 2 ^ 63 - 1 := by have h := hxl; simp only [maxLen] at h; exact h
                  obtain ⟨hz4, hz5, hz6, hz7, hz8⟩ := hz3
                  cases hd8 : (decide ((i : Int) < (xs.length : Int))) with
                  | false =>
                    have hp8 := of_decide_eq_false hd8
                    have hD : Dl xs i = D := by rw [show i = xs.length by omega]; exact hDe
                    rw [hD] at hz2
                    have hDk := hz2
                    dsimp only
                    rw [hD]
                    rw [hD] at hz7
                    refine run_auto [(189, .bool false)] 12 [false] [1] [1, 4, 8, 9, 15, 19, 26, 203, 204, 205] [0, 1, 2, 3] (st' := ⟨[(1, .slice aa L.length lc), (4, pA b1), (8, .bool false), (9, pA b3), (15, iV m), (19, iV (T p.es.length).2), (26, sV gd kd cd), (203, .agg #[iV p.ll, iV p.lh, iV p.ul, iV p.uh, sV g2 p.es.length cap2]), (204, iV m), (205, sV gd kd cd)], [(gd, cO ((D).flatMap inR ++ sd) 3), (b3, aO #[iV p.ll, iV p.lh, iV p.ul, iV p.uh, sV g2 p.es.length cap2] 26), (g2, cO ((trB p L (some ⟨g2, 0, none⟩) cap2).es.flatMap evR ++ sp2) 55), (b1, aO #[iV p.ll, iV p.lh, iV p.ul, iV p.uh, .slice p.ea p.es.length p.ec] 26)]⟩) (acc := [(pA b3, pA b3), (.bool false, .bool false), (.bool (decide ((i : Int) < (xs.length : Int))), .bool false)]) (by kernel_rfl) (by kernel_rfl) ⟨rfl, rfl, (bo hd8), trivial⟩ ?_
                    refine run_ret1 24 #[.agg #[iV p.ll, iV p.lh, iV p.ul, iV p.uh, sV g2 p.es.length cap2], iV m, sV gd kd cd] (some 206) (.tuple #[iV dv, iV de]) (by kernel_rfl) (fun w1 k1 h1 => (by have h := Day_any (trB p L (some ⟨g2, 0, none⟩) cap2) m D (some ⟨gd, 0, none⟩) cd w1 ⟨Evs.of_flat (sp := sp2) (h1 (g2, cO ((trB p L (some ⟨g2, 0, none⟩) cap2).es.flatMap evR ++ sp2) 55) (List.mem_of_getElem? (i := 2) (by kernel_rfl))), by show (trB p L (some ⟨g2, 0, none⟩) cap2).es.length ≤ maxLen; rw [trB_len]; exact hp.ln⟩ (Ins.of_flat (L := D) (sp := sd) (h1 (gd, cO ((D).flatMap inR ++ sd) 3) (List.mem_of_getElem? (i := 0) (by kernel_rfl)))) (by omega); rw [show (trB p L (some ⟨g2, 0, none⟩) cap2).es.length = p.es.length from trB_len _ _ _ _] at h; rw [show dayR (trB p L (some ⟨g2, 0, none⟩) cap2) m D = dayR q m D from by rw [hq], hdv, hde, hDk] at h; exact h)) ?_
                    cases hd9 : (de != 0) with
                    | false =>
                      have hp9 : de = 0 := by simpa using hd9
                      cases hd10 : (de == 0) with
                      | false =>
                        have hp10 : ¬ de = 0 := by simpa using hd10
                        exfalso
                        omega
                      | true =>
                        have hp10 : de = 0 := by simpa using hd10
                        cases hd11 : (decide (dv < 0)) with
                        | false =>
                          have hp11 := of_decide_eq_false hd11
                          cases hd12 : (decide ((kd : Int) ≤ dv)) with
                          | false =>
                            have hp12 := of_decide_eq_false hd12
                            refine run_auto [(210, .bool false), (221, .bool true), (224, .bool false), (229, .bool false)] 40 [false] [] [4, 8, 9, 15, 19, 26, 29, 30, 233, 234] [0, 1, 2, 3] (st' := ⟨[(4, pA b1), (8, .bool false), (9, pA b3), (15, iV m), (19, iV (T p.es.length).2), (26, sV gd kd cd), (29, iV dv), (30, iV de), (233, iV (T p.es.length).2), (234, .slice aa L.length lc)], [(gd, cO ((D).flatMap inR ++ sd) 3), (b3, aO #[iV p.ll, iV p.lh, iV p.ul, iV p.uh, sV g2 p.es.length cap2] 26), (g2, cO ((trB p L (some ⟨g2, 0, none⟩) cap2).es.flatMap evR ++ sp2) 55), (b1, aO #[iV p.ll, iV p.lh, iV p.ul, iV p.uh, .slice p.ea p.es.length p.ec] 26)]⟩) (acc := [(.bool false, .bool false), (.bool (decide ((kd : Int) ≤ dv)), .bool false), (.bool (decide (dv < 0)), .bool false), (.bool (de == 0), .bool true), (.bool (de != 0), .bool false)]) (by kernel_rfl) (by kernel_rfl) ⟨rfl, (bo hd12), (bo hd11), (bo hd10), (bo hd9), trivial⟩ ?_
                            refine run_nwl 31 #[.slice aa L.length lc] (some 235) (α := Nat × Nat) (fun x => .func (.func 88) #[] #[.pointer (some ⟨(x.1), 0, none⟩), .pointer (some ⟨(x.2), 0, none⟩)]) (fun x => [((x.1), aO #[iV 0] 3), ((x.2), aO #[.slice aa L.length lc] 43)]) (fun x => True) (by kernel_rfl) (fun x p hp => by simp only [List.mem_cons, List.not_mem_nil, or_false] at hp; rcases hp with rfl | rfl <;> rfl) (fun w1 k1 h1 => draws_any L aa lc w1) (fun x hI6 hn6 => ?_)
                            obtain ⟨a6, b6⟩ := x
                            dsimp only at hI6 hn6
                            have ha6 := hn6 _ (List.mem_of_getElem? (i := 0) rfl)
                            have hb6 := hn6 _ (List.mem_of_getElem? (i := 1) rfl)
                            refine run_auto [] 11 [] [] [4, 8, 9, 15, 19, 29, 30, 31, 32, 236, 237, 238] [0, 1, 2, 3, 4, 5] (st' := ⟨[(4, pA b1), (8, .bool false), (9, pA b3), (15, iV m), (19, iV (T p.es.length).2), (29, iV dv), (30, iV de), (31, iV (T p.es.length).2), (32, .func (.func 88) #[] #[pA a6, pA b6]), (236, sV gd kd cd), (237, iV (kd : Int)), (238, iV 0)], [(a6, aO #[iV 0] 3), (b6, aO #[.slice aa L.length lc] 43), (gd, cO ((D).flatMap inR ++ sd) 3), (b3, aO #[iV p.ll, iV p.lh, iV p.ul, iV p.uh, sV g2 p.es.length cap2] 26), (g2, cO ((trB p L (some ⟨g2, 0, none⟩) cap2).es.flatMap evR ++ sp2) 55), (b1, aO #[iV p.ll, iV p.lh, iV p.ul, iV p.uh, .slice p.ea p.es.length p.ec] 26)]⟩) (acc := []) (by kernel_rfl) (by kernel_rfl) trivial ?_
                            refine run_auto [] 0 [] [] [4, 8, 9, 15, 19, 29, 30, 31, 32, 236, 237, 238] [0, 1, 2, 3, 4, 5] (st' := ⟨[(4, pA b1), (8, .bool false), (9, pA b3), (15, iV m), (19, iV (T p.es.length).2), (29, iV dv), (30, iV de), (31, iV (T p.es.length).2), (32, .func (.func 88) #[] #[pA a6, pA b6]), (236, sV gd kd cd), (237, iV (kd : Int)), (238, iV 0)], [(a6, aO #[iV 0] 3), (b6, aO #[.slice aa L.length lc] 43), (gd, cO ((D).flatMap inR ++ sd) 3), (b3, aO #[iV p.ll, iV p.lh, iV p.ul, iV p.uh, sV g2 p.es.length cap2] 26), (g2, cO ((trB p L (some ⟨g2, 0, none⟩) cap2).es.flatMap evR ++ sp2) 55), (b1, aO #[iV p.ll, iV p.lh, iV p.ul, iV p.uh, .slice p.ea p.es.length p.ec] 26)]⟩) (acc := []) (by kernel_rfl) (by kernel_rfl) trivial ?_
                            refine run_loop (S := fun (c : Nat) => ⟨[(4, pA b1), (8, .bool false), (9, pA b3), (15, iV m), (19, iV (T p.es.length).2), (29, iV dv), (30, iV de), (31, iV (N c).2), (32, .func (.func 88) #[] #[pA a6, pA b6]), (236, sV gd kd cd), (237, iV (kd : Int)), (238, iV (c : Int))], [(a6, aO #[iV ((N c).1 : Int)] 3), (b6, aO #[.slice aa L.length lc] 43), (gd, cO ((D).flatMap inR ++ sd) 3), (b3, aO #[iV p.ll, iV p.lh, iV p.ul, iV p.uh, sV g2 p.es.length cap2] 26), (g2, cO ((trB p L (some ⟨g2, 0, none⟩) cap2).es.flatMap evR ++ sp2) 55), (b1, aO #[iV p.ll, iV p.lh, iV p.ul, iV p.uh, .slice p.ea p.es.length p.ec] 26)]⟩) (fun c => c ≤ kd) (fun c => kd - c) (0) (by kernel_rfl) (Nat.zero_le _) (by rw [← hN]; kernel_rfl) (fun c hI2 J2 hJ2 => ?_)
                            have hNc := hNb c (by omega)
                            have hnb := now_bd hqF hD10 hDv (i := c) (by omega)
                            cases hd13 : (decide ((c : Int) < (kd : Int))) with
                            | false =>
                              have hp13 := of_decide_eq_false hd13
                              refine run_auto [(239, .bool false)] 8 [false] [] [8, 9, 19] [3, 4] (st' := ⟨[(8, .bool false), (9, pA b3), (19, iV (T p.es.length).2)], [(b3, aO #[iV p.ll, iV p.lh, iV p.ul, iV p.uh, sV g2 p.es.length cap2] 26), (g2, cO ((trB p L (some ⟨g2, 0, none⟩) cap2).es.flatMap evR ++ sp2) 55)]⟩) (acc := [(.bool false, .bool false), (.bool (decide ((c : Int) < (kd : Int))), .bool false)]) (by kernel_rfl) (by kernel_rfl) ⟨rfl, (bo hd13), trivial⟩ ?_
                              refine drawW 10 [{ val := fun _ => .agg #[iV p.ll, iV p.lh, iV p.ul, iV p.uh, sV g2 p.es.length cap2], slots := [9], reads := [0] },
                                                              { val := fun _ => iV (T p.es.length).2, slots := [19] },
                                                              { val := fun _ => iV (T p.es.length).2, slots := [19] },
                                                              { val := fun _ => .agg #[iV (T p.es.length).2, iV (T p.es.length).2], slots := [268, 269] },
                                                              { val := fun _ => .tuple #[iV gr, iV 0], slots := [267, 270], reads := [1] },
                                                              { val := fun _ => .tuple #[iV gr, iV 0], slots := [271] },
                                                              { val := fun _ => iV gr, slots := [266] },
                                                              { val := fun _ => iV 0, slots := [266] },
                                                              { val := fun _ => iV gr, slots := [272] },
                                                              { val := fun _ => iV 0, slots := [273] }] [[], [], [], [1, 2], [0, 1, 2, 3], [0, 1, 2, 3, 4], [0, 1, 2, 3, 4, 5], [0, 1, 2, 3, 4, 5], [0, 1, 2, 3, 4, 5, 6], [0, 1, 2, 3, 4, 5, 6, 7, 8]] (by kernel_rfl) (by kernel_rfl) (by kernel_rfl) (by kernel_rfl) [8, 35, 36] [] (by kernel_rfl)
                                                              ⟨⟨⟨⟨⟨⟨⟨⟨⟨⟨trivial,
                                                              tri_quietW (fun β => []) [0] [0] (fun β => [(pA b3, pA b3)]) (by kernel_rfl) (fun β extra => by kernel_rfl) (by kernel_rfl) (fun β => ⟨rfl, trivial⟩)⟩,
                                                              tri_quietW (fun β => []) [] [] (fun β => []) (by kernel_rfl) (fun β extra => by kernel_rfl) (by kernel_rfl) (fun β => trivial)⟩,
                                                              tri_quietW (fun β => []) [] [] (fun β => []) (by kernel_rfl) (fun β extra => by kernel_rfl) (by kernel_rfl) (fun β => trivial)⟩,
                                                              tri_callVW (fun β => .agg #[iV (T p.es.length).2, iV (T p.es.length).2]) (fun β => by kernel_rfl) 32 (fun β => #[iV (T p.es.length).2, iV (T p.es.length).2]) (by kernel_rfl) (fun β extra => by kernel_rfl) (fun β => by kernel_rfl) (fun β w1 k1 h1 => span_any (T p.es.length).2 (T p.es.length).2 w1)⟩,
                                                              tri_callVW (fun β => .tuple #[iV gr, iV 0]) (fun β => by kernel_rfl) 20 (fun β => #[.agg #[iV p.ll, iV p.lh, iV p.ul, iV p.uh, sV g2 p.es.length cap2], .agg #[iV (T p.es.length).2, iV (T p.es.length).2]]) (by kernel_rfl) (fun β extra => by kernel_rfl) (fun β => by kernel_rfl) (fun β w1 k1 h1 => (by have h := Fits_any (trB p L (some ⟨g2, 0, none⟩) cap2) ((T p.es.length).2, (T p.es.length).2) w1 ⟨Evs.of_flat (sp := sp2) (h1 (g2, cO ((trB p L (some ⟨g2, 0, none⟩) cap2).es.flatMap evR ++ sp2) 55) (List.mem_of_getElem? (i := 0) (by kernel_rfl))), by show (trB p L (some ⟨g2, 0, none⟩) cap2).es.length ≤ maxLen; rw [trB_len]; exact hp.ln⟩; rw [show (trB p L (some ⟨g2, 0, none⟩) cap2).es.length = p.es.length from trB_len _ _ _ _] at h; rw [show fitsR (trB p L (some ⟨g2, 0, none⟩) cap2) ((T p.es.length).2, (T p.es.length).2) = .inr gr from by rw [hq]; exact fitsR_ok hqF hqc hs1 (by rw [hql]; exact hgr)] at h; exact h))⟩,
                                                              tri_quietW (fun β => []) [] [] (fun β => []) (by kernel_rfl) (fun β extra => by kernel_rfl) (by kernel_rfl) (fun β => trivial)⟩,
                                                              tri_quietW (fun β => []) [] [] (fun β => []) (by kernel_rfl) (fun β extra => by kernel_rfl) (by kernel_rfl) (fun β => trivial)⟩,
                                                              tri_quietW (fun β => []) [] [] (fun β => []) (by kernel_rfl) (fun β extra => by kernel_rfl) (by kernel_rfl) (fun β => trivial)⟩,
                                                              tri_quietW (fun β => []) [] [] (fun β => []) (by kernel_rfl) (fun β extra => by kernel_rfl) (by kernel_rfl) (fun β => trivial)⟩,
                                                              tri_quietW (fun β => []) [] [] (fun β => []) (by kernel_rfl) (fun β extra => by kernel_rfl) (by kernel_rfl) (fun β => trivial)⟩
                                                              (fun β => ⟨[(8, .bool false), (35, iV gr), (36, iV 0)], []⟩) (fun β => by kernel_rfl) (fun β7 => ?_)
                              cases hd14 : (gr != 0) with
                              | false =>
                                have hp14 : gr = 0 := by simpa using hd14
                                exfalso
                                omega
                              | true =>
                                have hp14 : ¬ gr = 0 := by simpa using hd14
                                refine run_auto [(275, .bool true), (278, .bool true)] 9 [] [] [8, 280] [] (st' := ⟨[(8, .bool false), (280, .bool true)], []⟩) (acc := [(.bool (gr != 0), .bool true), (.bool true, .bool true)]) (by kernel_rfl) (by kernel_rfl) ⟨(bo hd14), rfl, trivial⟩ ?_
                                refine run_ret1 13 #[] (some 281) (.bool true) (by kernel_rfl) (fun w1 k1 h1 => awake_any w1) ?_
                                refine run_auto [] 3 [] [] [8] [] (st' := ⟨[(8, .bool true)], []⟩) (acc := []) (by kernel_rfl) (by kernel_rfl) trivial ?_
                                refine run_end (fn := f5) rfl (Nat.le_refl _) (by kernel_rfl) [] [.bool true] (e := []) (by kernel_rfl) trivial (fun w1 k1 h1 => ?_)
                                exact ⟨rfl, k1.keeps (fun _ h => h)⟩
                            | true =>
                              have hp13 := of_decide_eq_true hd13
                              have hck : c < kd := by omega
                              have hcu := use_of hDv (i := c) (by omega)
                              refine run_auto [(239, .bool true)] 12 [true] [] [4, 8, 9, 15, 19, 29, 30, 31, 32, 236, 237, 238, 240] [0, 1, 2, 3, 4, 5] (st' := ⟨[(4, pA b1), (8, .bool false), (9, pA b3), (15, iV m), (19, iV (T p.es.length).2), (29, iV dv), (30, iV de), (31, iV (N c).2), (32, .func (.func 88) #[] #[pA a6, pA b6]), (236, sV gd kd cd), (237, iV (kd : Int)), (238, iV (c : Int)), (240, iV (c : Int))], [(a6, aO #[iV ((N c).1 : Int)] 3), (b6, aO #[.slice aa L.length lc] 43), (gd, cO ((D).flatMap inR ++ sd) 3), (b3, aO #[iV p.ll, iV p.lh, iV p.ul, iV p.uh, sV g2 p.es.length cap2] 26), (g2, cO ((trB p L (some ⟨g2, 0, none⟩) cap2).es.flatMap evR ++ sp2) 55), (b1, aO #[iV p.ll, iV p.lh, iV p.ul, iV p.uh, .slice p.ea p.es.length p.ec] 26)]⟩) (acc := [(.bool true, .bool true), (.bool (decide ((c : Int) < (kd : Int))), .bool true)]) (by kernel_rfl) (by kernel_rfl) ⟨rfl, (bo hd13), trivial⟩ ?_
                              refine run_v (Instr.indexAt 38 (sV gd kd cd) (iV (c : Int)) >>= fun v => pure (Next.value v)) (some 241) (.pointer (some ⟨gd, c, none⟩)) (by kernel_rfl) (fun w1 k1 h1 => idx_off (e := 3) (n := 1) (by kernel_rfl) (by kernel_rfl) gd (0) kd cd .i64 c (by omega) (c) (by omega) w1) ?_
                              refine run_v (Instr.loadAt 3 (.pointer (some ⟨gd, c, none⟩)) >>= fun v => pure (Next.value v)) (some 242) (iV (elI D c)) (by kernel_rfl) (fun w1 k1 h1 => load_own (e := 3) (fr := (0, 0)) (c := (D).flatMap inR ++ sd) h1 (List.mem_of_getElem? (i := 2) (by kernel_rfl)) (flat_loadF (c := inR) (n := 1) inR_len (by kernel_rfl) (i := c) (k := 0) (by first | omega | (simp; omega)) (by rw [inR_at (by first | omega | (simp; omega))]; rfl) (by omega))) ?_
                              refine run_auto [] 10 [] [] [4, 8, 9, 15, 19, 29, 30, 31, 32, 236, 237, 238, 33, 243, 244] [0, 1, 2, 3, 4, 5] (st' := ⟨[(4, pA b1), (8, .bool false), (9, pA b3), (15, iV m), (19, iV (T p.es.length).2), (29, iV dv), (30, iV de), (31, iV (N c).2), (32, .func (.func 88) #[] #[pA a6, pA b6]), (236, sV gd kd cd), (237, iV (kd : Int)), (238, iV (c : Int)), (33, iV (c : Int)), (243, iV (elI D c)), (244, iV 0)], [(a6, aO #[iV ((N c).1 : Int)] 3), (b6, aO #[.slice aa L.length lc] 43), (gd, cO ((D).flatMap inR ++ sd) 3), (b3, aO #[iV p.ll, iV p.lh, iV p.ul, iV p.uh, sV g2 p.es.length cap2] 26), (g2, cO ((trB p L (some ⟨g2, 0, none⟩) cap2).es.flatMap evR ++ sp2) 55), (b1, aO #[iV p.ll, iV p.lh, iV p.ul, iV p.uh, .slice p.ea p.es.length p.ec] 26)]⟩) (acc := []) (by kernel_rfl) (by kernel_rfl) trivial ?_
                              refine run_auto [] 0 [] [] [4, 8, 9, 15, 19, 29, 30, 31, 32, 236, 237, 238, 33, 243, 244] [0, 1, 2, 3, 4, 5] (st' := ⟨[(4, pA b1), (8, .bool false), (9, pA b3), (15, iV m), (19, iV (T p.es.length).2), (29, iV dv), (30, iV de), (31, iV (N c).2), (32, .func (.func 88) #[] #[pA a6, pA b6]), (236, sV gd kd cd), (237, iV (kd : Int)), (238, iV (c : Int)), (33, iV (c : Int)), (243, iV (elI D c)), (244, iV 0)], [(a6, aO #[iV ((N c).1 : Int)] 3), (b6, aO #[.slice aa L.length lc] 43), (gd, cO ((D).flatMap inR ++ sd) 3), (b3, aO #[iV p.ll, iV p.lh, iV p.ul, iV p.uh, sV g2 p.es.length cap2] 26), (g2, cO ((trB p L (some ⟨g2, 0, none⟩) cap2).es.flatMap evR ++ sp2) 55), (b1, aO #[iV p.ll, iV p.lh, iV p.ul, iV p.uh, .slice p.ea p.es.length p.ec] 26)]⟩) (acc := []) (by kernel_rfl) (by kernel_rfl) trivial ?_
                              refine run_loop (S := fun (t : Nat) => ⟨[(4, pA b1), (8, .bool false), (9, pA b3), (15, iV m), (19, iV (T p.es.length).2), (29, iV dv), (30, iV de), (31, iV (usD L (p.ul, p.uh) (N c).1 (N c).2 t)), (32, .func (.func 88) #[] #[pA a6, pA b6]), (236, sV gd kd cd), (237, iV (kd : Int)), (238, iV (c : Int)), (33, iV (c : Int)), (243, iV (elI D c)), (244, iV (t : Int))], [(a6, aO #[iV (((N c).1 + t : Nat) : Int)] 3), (b6, aO #[.slice aa L.length lc] 43), (gd, cO ((D).flatMap inR ++ sd) 3), (b3, aO #[iV p.ll, iV p.lh, iV p.ul, iV p.uh, sV g2 p.es.length cap2] 26), (g2, cO ((trB p L (some ⟨g2, 0, none⟩) cap2).es.flatMap evR ++ sp2) 55), (b1, aO #[iV p.ll, iV p.lh, iV p.ul, iV p.uh, .slice p.ea p.es.length p.ec] 26)]⟩) (fun t => (t : Int) ≤ elI D c) (fun t => 20 - t) (0) (by kernel_rfl) (by omega) (by simp [usD]) (fun t hI3 J3 hJ3 => ?_)
                              have hub := usD_bd L (u := (p.ul, p.uh)) hu0.2.1 (N c).1 (N c).2 t
                              have ht1 : 0 ≤ (t : Int) * p.ul := Int.mul_nonneg (by omega) hu0.1
                              have ht2 : (t : Int) * p.uh ≤ 20 * 3 := Int.mul_le_mul (by omega) hu0.2.2 (by omega) (by omega)
                              dsimp only at hub
                              have hdi := dw_in L ((N c).1 + t) (s := (p.ul, p.uh)) hu0.2.1
                              dsimp only at hdi
                              cases hd14 : (decide ((t : Int) < (elI D c))) with
                              | false =>
                                have hp14 := of_decide_eq_false hd14
                                have htn : (elI D c).toNat = t := by omega
                                have hst : N (c + 1) = ((N c).1 + (elI D c).toNat, usD L (p.ul, p.uh) (N c).1 (N c).2 (elI D c).toNat) := by rw [← hN]; rfl
                                rw [htn] at hst
                                have hnk := hNb (c + 1) (by omega)
                                rw [hst] at hnk
                                dsimp only at hnk
                                cases hd15 : (decide ((usD L (p.ul, p.uh) (N c).1 (N c).2 t) < m)) with
                                | false =>
                                  have hp15 := of_decide_eq_false hd15
                                  refine run_auto [(245, .bool false), (255, .bool false), (265, iV ((c + 1 : Nat) : Int))] 29 [false, false] [] [4, 8, 9, 15, 19, 29, 30, 31, 32, 236, 237, 238] [0, 1, 2, 3, 4, 5] (st' := ⟨[(4, pA b1), (8, .bool false), (9, pA b3), (15, iV m), (19, iV (T p.es.length).2), (29, iV dv), (30, iV de), (31, iV (usD L (p.ul, p.uh) (N c).1 (N c).2 t)), (32, .func (.func 88) #[] #[pA a6, pA b6]), (236, sV gd kd cd), (237, iV (kd : Int)), (238, iV ((c + 1 : Nat) : Int))], [(a6, aO #[iV (((N c).1 + t : Nat) : Int)] 3), (b6, aO #[.slice aa L.length lc] 43), (gd, cO ((D).flatMap inR ++ sd) 3), (b3, aO #[iV p.ll, iV p.lh, iV p.ul, iV p.uh, sV g2 p.es.length cap2] 26), (g2, cO ((trB p L (some ⟨g2, 0, none⟩) cap2).es.flatMap evR ++ sp2) 55), (b1, aO #[iV p.ll, iV p.lh, iV p.ul, iV p.uh, .slice p.ea p.es.length p.ec] 26)]⟩) (acc := [(iV (IntKind.i64.wrap ((c : Int) + 1)), iV ((c + 1 : Nat) : Int)), (.bool false, .bool false), (.bool (decide ((usD L (p.ul, p.uh) (N c).1 (N c).2 t) < m)), .bool false), (.bool false, .bool false), (.bool (decide ((t : Int) < (elI D c))), .bool false)]) (by kernel_rfl) (by kernel_rfl) ⟨(wr (by omega) (by omega)), rfl, (bo hd15), rfl, (bo hd14), trivial⟩ ?_
                                  have hj := hJ2 (c + 1) (by omega) (by omega)
                                  rw [hst] at hj
                                  exact run_round (by kernel_rfl) hj
                                | true =>
                                  have hp15 := of_decide_eq_true hd15
                                  have hle := hY.le (j := c) (by omega) (by omega)
                                  cases hd16 : (decide ((c : Int) < dv)) with
                                  | false =>
                                    have hp16 := of_decide_eq_false hd16
                                    refine run_auto [(245, .bool false), (255, .bool true), (258, .bool false), (262, .bool false), (265, iV ((c + 1 : Nat) : Int))] 29 [false, false] [] [4, 8, 9, 15, 19, 29, 30, 31, 32, 236, 237, 238] [0, 1, 2, 3, 4, 5] (st' := ⟨[(4, pA b1), (8, .bool false), (9, pA b3), (15, iV m), (19, iV (T p.es.length).2), (29, iV dv), (30, iV de), (31, iV (usD L (p.ul, p.uh) (N c).1 (N c).2 t)), (32, .func (.func 88) #[] #[pA a6, pA b6]), (236, sV gd kd cd), (237, iV (kd : Int)), (238, iV ((c + 1 : Nat) : Int))], [(a6, aO #[iV (((N c).1 + t : Nat) : Int)] 3), (b6, aO #[.slice aa L.length lc] 43), (gd, cO ((D).flatMap inR ++ sd) 3), (b3, aO #[iV p.ll, iV p.lh, iV p.ul, iV p.uh, sV g2 p.es.length cap2] 26), (g2, cO ((trB p L (some ⟨g2, 0, none⟩) cap2).es.flatMap evR ++ sp2) 55), (b1, aO #[iV p.ll, iV p.lh, iV p.ul, iV p.uh, .slice p.ea p.es.length p.ec] 26)]⟩) (acc := [(iV (IntKind.i64.wrap ((c : Int) + 1)), iV ((c + 1 : Nat) : Int)), (.bool false, .bool false), (.bool (decide ((c : Int) < dv)), .bool false), (.bool (de != 0), .bool false), (.bool (decide ((usD L (p.ul, p.uh) (N c).1 (N c).2 t) < m)), .bool true), (.bool false, .bool false), (.bool (decide ((t : Int) < (elI D c))), .bool false)]) (by kernel_rfl) (by kernel_rfl) ⟨(wr (by omega) (by omega)), rfl, (bo hd16), (bo hd9), (bo hd15), rfl, (bo hd14), trivial⟩ ?_
                                    have hj := hJ2 (c + 1) (by omega) (by omega)
                                    rw [hst] at hj
                                    exact run_round (by kernel_rfl) hj
                                  | true =>
                                    have hp16 := of_decide_eq_true hd16
                                    exfalso
                                    omega
                              | true =>
                                have hp14 := of_decide_eq_true hd14
                                refine run_auto [(245, .bool true)] 14 [true] [5] [4, 8, 9, 15, 19, 29, 30, 31, 32, 236, 237, 238, 33, 243, 244, 246, 247, 249] [0, 1, 2, 3, 4, 5] (st' := ⟨[(4, pA b1), (8, .bool false), (9, pA b3), (15, iV m), (19, iV (T p.es.length).2), (29, iV dv), (30, iV de), (31, iV (usD L (p.ul, p.uh) (N c).1 (N c).2 t)), (32, .func (.func 88) #[] #[pA a6, pA b6]), (236, sV gd kd cd), (237, iV (kd : Int)), (238, iV (c : Int)), (33, iV (c : Int)), (243, iV (elI D c)), (244, iV (t : Int)), (246, iV (usD L (p.ul, p.uh) (N c).1 (N c).2 t)), (247, .func (.func 88) #[] #[pA a6, pA b6]), (249, .agg #[iV p.ul, iV p.uh])], [(a6, aO #[iV (((N c).1 + t : Nat) : Int)] 3), (b6, aO #[.slice aa L.length lc] 43), (gd, cO ((D).flatMap inR ++ sd) 3), (b3, aO #[iV p.ll, iV p.lh, iV p.ul, iV p.uh, sV g2 p.es.length cap2] 26), (g2, cO ((trB p L (some ⟨g2, 0, none⟩) cap2).es.flatMap evR ++ sp2) 55), (b1, aO #[iV p.ll, iV p.lh, iV p.ul, iV p.uh, .slice p.ea p.es.length p.ec] 26)]⟩) (acc := [(pA b1, pA b1), (.bool true, .bool true), (.bool (decide ((t : Int) < (elI D c))), .bool true)]) (by kernel_rfl) (by kernel_rfl) ⟨rfl, rfl, (bo hd14), trivial⟩ ?_
                                refine run_wr 88 #[.agg #[iV p.ul, iV p.uh], pA a6, pA b6] (some 250) (iV (dwS L ((N c).1 + t : Nat) (p.ul, p.uh))) 0 a6 (aO #[iV (((N c).1 + t : Nat) : Int)] 3) (aO #[iV ((((N c).1 + t : Nat) + 1 : Nat) : Int)] 3) (by kernel_rfl) (by kernel_rfl) (by kernel_rfl) (fun w1 k1 h1 => draw_any a6 b6 ((N c).1 + t : Nat) lc p.ul p.uh L aa (by omega) (by omega) (by omega) (by omega) w1 (h1 (a6, aO #[iV (((N c).1 + t : Nat) : Int)] 3) (List.mem_of_getElem? (i := 0) (by kernel_rfl))) (h1 (b6, aO #[.slice aa L.length lc] 43) (List.mem_of_getElem? (i := 1) (by kernel_rfl))) (hU.us (k1.keeps (fun _ h => h)) ha6) hlm) ?_
                                refine run_auto [(251, iV ((usD L (p.ul, p.uh) (N c).1 (N c).2 t) - (dwS L ((N c).1 + t : Nat) (p.ul, p.uh)))), (252, iV ((t + 1 : Nat) : Int))] 8 [] [] [4, 8, 9, 15, 19, 29, 30, 31, 32, 236, 237, 238, 33, 243, 244] [0, 1, 2, 3, 4, 5] (st' := ⟨[(4, pA b1), (8, .bool false), (9, pA b3), (15, iV m), (19, iV (T p.es.length).2), (29, iV dv), (30, iV de), (31, iV ((usD L (p.ul, p.uh) (N c).1 (N c).2 t) - (dwS L ((N c).1 + t : Nat) (p.ul, p.uh)))), (32, .func (.func 88) #[] #[pA a6, pA b6]), (236, sV gd kd cd), (237, iV (kd : Int)), (238, iV (c : Int)), (33, iV (c : Int)), (243, iV (elI D c)), (244, iV ((t + 1 : Nat) : Int))], [(a6, aO #[iV ((((N c).1 + t : Nat) + 1 : Nat) : Int)] 3), (b6, aO #[.slice aa L.length lc] 43), (gd, cO ((D).flatMap inR ++ sd) 3), (b3, aO #[iV p.ll, iV p.lh, iV p.ul, iV p.uh, sV g2 p.es.length cap2] 26), (g2, cO ((trB p L (some ⟨g2, 0, none⟩) cap2).es.flatMap evR ++ sp2) 55), (b1, aO #[iV p.ll, iV p.lh, iV p.ul, iV p.uh, .slice p.ea p.es.length p.ec] 26)]⟩) (acc := [(iV (IntKind.i64.wrap ((t : Int) + 1)), iV ((t + 1 : Nat) : Int)), (iV (IntKind.i64.wrap ((usD L (p.ul, p.uh) (N c).1 (N c).2 t) - (dwS L ((N c).1 + t : Nat) (p.ul, p.uh)))), iV ((usD L (p.ul, p.uh) (N c).1 (N c).2 t) - (dwS L ((N c).1 + t : Nat) (p.ul, p.uh))))]) (by kernel_rfl) (by kernel_rfl) ⟨(wr (by omega) (by omega)), (wr (by omega) (by omega)), trivial⟩ ?_
                                exact run_round (by kernel_rfl) (hJ3 (t + 1) (by omega) (by omega))
                          | true =>
                            have hp12 := of_decide_eq_true hd12
                            exfalso
                            omega
                        | true =>
                          have hp11 := of_decide_eq_true hd11
                          exfalso
                          omega
                    | true =>
                      have hp9 : ¬ de = 0 := by simpa using hd9
                      cases hd10 : (de != 4) with
                      | false =>
                        have hp10 : de = 4 := by simpa using hd10
                        cases hd11 : (dv != 0) with
                        | false =>
                          have hp11 : dv = 0 := by simpa using hd11
                          cases hd12 : (de == 0) with
                          | false =>
                            have hp12 : ¬ de = 0 := by simpa using hd12
                            refine run_auto [(210, .bool true), (213, .bool false), (216, .bool false), (221, .bool false)] 40 [false] [] [4, 8, 9, 15, 19, 26, 29, 30, 233, 234] [0, 1, 2, 3] (st' := ⟨[(4, pA b1), (8, .bool false), (9, pA b3), (15, iV m), (19, iV (T p.es.length).2), (26, sV gd kd cd), (29, iV dv), (30, iV de), (233, iV (T p.es.length).2), (234, .slice aa L.length lc)], [(gd, cO ((D).flatMap inR ++ sd) 3), (b3, aO #[iV p.ll, iV p.lh, iV p.ul, iV p.uh, sV g2 p.es.length cap2] 26), (g2, cO ((trB p L (some ⟨g2, 0, none⟩) cap2).es.flatMap evR ++ sp2) 55), (b1, aO #[iV p.ll, iV p.lh, iV p.ul, iV p.uh, .slice p.ea p.es.length p.ec] 26)]⟩) (acc := [(.bool false, .bool false), (.bool (de == 0), .bool false), (.bool (dv != 0), .bool false), (.bool (de != 4), .bool false), (.bool (de != 0), .bool true)]) (by kernel_rfl) (by kernel_rfl) ⟨rfl, (bo hd12), (bo hd11), (bo hd10), (bo hd9), trivial⟩ ?_
                            refine run_nwl 31 #[.slice aa L.length lc] (some 235) (α := Nat × Nat) (fun x => .func (.func 88) #[] #[.pointer (some ⟨(x.1), 0, none⟩), .pointer (some ⟨(x.2), 0, none⟩)]) (fun x => [((x.1), aO #[iV 0] 3), ((x.2), aO #[.slice aa L.length lc] 43)]) (fun x => True) (by kernel_rfl) (fun x p hp => by simp only [List.mem_cons, List.not_mem_nil, or_false] at hp; rcases hp with rfl | rfl <;> rfl) (fun w1 k1 h1 => draws_any L aa lc w1) (fun x hI6 hn6 => ?_)
                            obtain ⟨a6, b6⟩ := x
                            dsimp only at hI6 hn6
                            have ha6 := hn6 _ (List.mem_of_getElem? (i := 0) rfl)
                            have hb6 := hn6 _ (List.mem_of_getElem? (i := 1) rfl)
                            refine run_auto [] 11 [] [] [4, 8, 9, 15, 19, 29, 30, 31, 32, 236, 237, 238] [0, 1, 2, 3, 4, 5] (st' := ⟨[(4, pA b1), (8, .bool false), (9, pA b3), (15, iV m), (19, iV (T p.es.length).2), (29, iV dv), (30, iV de), (31, iV (T p.es.length).2), (32, .func (.func 88) #[] #[pA a6, pA b6]), (236, sV gd kd cd), (237, iV (kd : Int)), (238, iV 0)], [(a6, aO #[iV 0] 3), (b6, aO #[.slice aa L.length lc] 43), (gd, cO ((D).flatMap inR ++ sd) 3), (b3, aO #[iV p.ll, iV p.lh, iV p.ul, iV p.uh, sV g2 p.es.length cap2] 26), (g2, cO ((trB p L (some ⟨g2, 0, none⟩) cap2).es.flatMap evR ++ sp2) 55), (b1, aO #[iV p.ll, iV p.lh, iV p.ul, iV p.uh, .slice p.ea p.es.length p.ec] 26)]⟩) (acc := []) (by kernel_rfl) (by kernel_rfl) trivial ?_
                            refine run_auto [] 0 [] [] [4, 8, 9, 15, 19, 29, 30, 31, 32, 236, 237, 238] [0, 1, 2, 3, 4, 5] (st' := ⟨[(4, pA b1), (8, .bool false), (9, pA b3), (15, iV m), (19, iV (T p.es.length).2), (29, iV dv), (30, iV de), (31, iV (T p.es.length).2), (32, .func (.func 88) #[] #[pA a6, pA b6]), (236, sV gd kd cd), (237, iV (kd : Int)), (238, iV 0)], [(a6, aO #[iV 0] 3), (b6, aO #[.slice aa L.length lc] 43), (gd, cO ((D).flatMap inR ++ sd) 3), (b3, aO #[iV p.ll, iV p.lh, iV p.ul, iV p.uh, sV g2 p.es.length cap2] 26), (g2, cO ((trB p L (some ⟨g2, 0, none⟩) cap2).es.flatMap evR ++ sp2) 55), (b1, aO #[iV p.ll, iV p.lh, iV p.ul, iV p.uh, .slice p.ea p.es.length p.ec] 26)]⟩) (acc := []) (by kernel_rfl) (by kernel_rfl) trivial ?_
                            refine run_loop (S := fun (c : Nat) => ⟨[(4, pA b1), (8, .bool false), (9, pA b3), (15, iV m), (19, iV (T p.es.length).2), (29, iV dv), (30, iV de), (31, iV (N c).2), (32, .func (.func 88) #[] #[pA a6, pA b6]), (236, sV gd kd cd), (237, iV (kd : Int)), (238, iV (c : Int))], [(a6, aO #[iV ((N c).1 : Int)] 3), (b6, aO #[.slice aa L.length lc] 43), (gd, cO ((D).flatMap inR ++ sd) 3), (b3, aO #[iV p.ll, iV p.lh, iV p.ul, iV p.uh, sV g2 p.es.length cap2] 26), (g2, cO ((trB p L (some ⟨g2, 0, none⟩) cap2).es.flatMap evR ++ sp2) 55), (b1, aO #[iV p.ll, iV p.lh, iV p.ul, iV p.uh, .slice p.ea p.es.length p.ec] 26)]⟩) (fun c => c ≤ kd) (fun c => kd - c) (0) (by kernel_rfl) (Nat.zero_le _) (by rw [← hN]; kernel_rfl) (fun c hI2 J2 hJ2 => ?_)
                            have hNc := hNb c (by omega)
                            have hnb := now_bd hqF hD10 hDv (i := c) (by omega)
                            cases hd13 : (decide ((c : Int) < (kd : Int))) with
                            | false =>
                              have hp13 := of_decide_eq_false hd13
                              refine run_auto [(239, .bool false)] 8 [false] [] [8, 9, 19] [3, 4] (st' := ⟨[(8, .bool false), (9, pA b3), (19, iV (T p.es.length).2)], [(b3, aO #[iV p.ll, iV p.lh, iV p.ul, iV p.uh, sV g2 p.es.length cap2] 26), (g2, cO ((trB p L (some ⟨g2, 0, none⟩) cap2).es.flatMap evR ++ sp2) 55)]⟩) (acc := [(.bool false, .bool false), (.bool (decide ((c : Int) < (kd : Int))), .bool false)]) (by kernel_rfl) (by kernel_rfl) ⟨rfl, (bo hd13), trivial⟩ ?_
                              refine drawW 10 [{ val := fun _ => .agg #[iV p.ll, iV p.lh, iV p.ul, iV p.uh, sV g2 p.es.length cap2], slots := [9], reads := [0] },
                                                              { val := fun _ => iV (T p.es.length).2, slots := [19] },
                                                              { val := fun _ => iV (T p.es.length).2, slots := [19] },
                                                              { val := fun _ => .agg #[iV (T p.es.length).2, iV (T p.es.length).2], slots := [268, 269] },
                                                              { val := fun _ => .tuple #[iV gr, iV 0], slots := [267, 270], reads := [1] },
                                                              { val := fun _ => .tuple #[iV gr, iV 0], slots := [271] },
                                                              { val := fun _ => iV gr, slots := [266] },
                                                              { val := fun _ => iV 0, slots := [266] },
                                                              { val := fun _ => iV gr, slots := [272] },
                                                              { val := fun _ => iV 0, slots := [273] }] [[], [], [], [1, 2], [0, 1, 2, 3], [0, 1, 2, 3, 4], [0, 1, 2, 3, 4, 5], [0, 1, 2, 3, 4, 5], [0, 1, 2, 3, 4, 5, 6], [0, 1, 2, 3, 4, 5, 6, 7, 8]] (by kernel_rfl) (by kernel_rfl) (by kernel_rfl) (by kernel_rfl) [8, 35, 36] [] (by kernel_rfl)
                                                              ⟨⟨⟨⟨⟨⟨⟨⟨⟨⟨trivial,
                                                              tri_quietW (fun β => []) [0] [0] (fun β => [(pA b3, pA b3)]) (by kernel_rfl) (fun β extra => by kernel_rfl) (by kernel_rfl) (fun β => ⟨rfl, trivial⟩)⟩,
                                                              tri_quietW (fun β => []) [] [] (fun β => []) (by kernel_rfl) (fun β extra => by kernel_rfl) (by kernel_rfl) (fun β => trivial)⟩,
                                                              tri_quietW (fun β => []) [] [] (fun β => []) (by kernel_rfl) (fun β extra => by kernel_rfl) (by kernel_rfl) (fun β => trivial)⟩,
                                                              tri_callVW (fun β => .agg #[iV (T p.es.length).2, iV (T p.es.length).2]) (fun β => by kernel_rfl) 32 (fun β => #[iV (T p.es.length).2, iV (T p.es.length).2]) (by kernel_rfl) (fun β extra => by kernel_rfl) (fun β => by kernel_rfl) (fun β w1 k1 h1 => span_any (T p.es.length).2 (T p.es.length).2 w1)⟩,
                                                              tri_callVW (fun β => .tuple #[iV gr, iV 0]) (fun β => by kernel_rfl) 20 (fun β => #[.agg #[iV p.ll, iV p.lh, iV p.ul, iV p.uh, sV g2 p.es.length cap2], .agg #[iV (T p.es.length).2, iV (T p.es.length).2]]) (by kernel_rfl) (fun β extra => by kernel_rfl) (fun β => by kernel_rfl) (fun β w1 k1 h1 => (by have h := Fits_any (trB p L (some ⟨g2, 0, none⟩) cap2) ((T p.es.length).2, (T p.es.length).2) w1 ⟨Evs.of_flat (sp := sp2) (h1 (g2, cO ((trB p L (some ⟨g2, 0, none⟩) cap2).es.flatMap evR ++ sp2) 55) (List.mem_of_getElem? (i := 0) (by kernel_rfl))), by show (trB p L (some ⟨g2, 0, none⟩) cap2).es.length ≤ maxLen; rw [trB_len]; exact hp.ln⟩; rw [show (trB p L (some ⟨g2, 0, none⟩) cap2).es.length = p.es.length from trB_len _ _ _ _] at h; rw [show fitsR (trB p L (some ⟨g2, 0, none⟩) cap2) ((T p.es.length).2, (T p.es.length).2) = .inr gr from by rw [hq]; exact fitsR_ok hqF hqc hs1 (by rw [hql]; exact hgr)] at h; exact h))⟩,
                                                              tri_quietW (fun β => []) [] [] (fun β => []) (by kernel_rfl) (fun β extra => by kernel_rfl) (by kernel_rfl) (fun β => trivial)⟩,
                                                              tri_quietW (fun β => []) [] [] (fun β => []) (by kernel_rfl) (fun β extra => by kernel_rfl) (by kernel_rfl) (fun β => trivial)⟩,
                                                              tri_quietW (fun β => []) [] [] (fun β => []) (by kernel_rfl) (fun β extra => by kernel_rfl) (by kernel_rfl) (fun β => trivial)⟩,
                                                              tri_quietW (fun β => []) [] [] (fun β => []) (by kernel_rfl) (fun β extra => by kernel_rfl) (by kernel_rfl) (fun β => trivial)⟩,
                                                              tri_quietW (fun β => []) [] [] (fun β => []) (by kernel_rfl) (fun β extra => by kernel_rfl) (by kernel_rfl) (fun β => trivial)⟩
                                                              (fun β => ⟨[(8, .bool false), (35, iV gr), (36, iV 0)], []⟩) (fun β => by kernel_rfl) (fun β7 => ?_)
                              cases hd14 : (gr != 0) with
                              | false =>
                                have hp14 : gr = 0 := by simpa using hd14
                                exfalso
                                omega
                              | true =>
                                have hp14 : ¬ gr = 0 := by simpa using hd14
                                refine run_auto [(275, .bool true), (278, .bool true)] 9 [] [] [8, 280] [] (st' := ⟨[(8, .bool false), (280, .bool true)], []⟩) (acc := [(.bool (gr != 0), .bool true), (.bool true, .bool true)]) (by kernel_rfl) (by kernel_rfl) ⟨(bo hd14), rfl, trivial⟩ ?_
                                refine run_ret1 13 #[] (some 281) (.bool true) (by kernel_rfl) (fun w1 k1 h1 => awake_any w1) ?_
                                refine run_auto [] 3 [] [] [8] [] (st' := ⟨[(8, .bool true)], []⟩) (acc := []) (by kernel_rfl) (by kernel_rfl) trivial ?_
                                refine run_end (fn := f5) rfl (Nat.le_refl _) (by kernel_rfl) [] [.bool true] (e := []) (by kernel_rfl) trivial (fun w1 k1 h1 => ?_)
                                exact ⟨rfl, k1.keeps (fun _ h => h)⟩
                            | true =>
                              have hp13 := of_decide_eq_true hd13
                              have hck : c < kd := by omega
                              have hcu := use_of hDv (i := c) (by omega)
                              refine run_auto [(239, .bool true)] 12 [true] [] [4, 8, 9, 15, 19, 29, 30, 31, 32, 236, 237, 238, 240] [0, 1, 2, 3, 4, 5] (st' := ⟨[(4, pA b1), (8, .bool false), (9, pA b3), (15, iV m), (19, iV (T p.es.length).2), (29, iV dv), (30, iV de), (31, iV (N c).2), (32, .func (.func 88) #[] #[pA a6, pA b6]), (236, sV gd kd cd), (237, iV (kd : Int)), (238, iV (c : Int)), (240, iV (c : Int))], [(a6, aO #[iV ((N c).1 : Int)] 3), (b6, aO #[.slice aa L.length lc] 43), (gd, cO ((D).flatMap inR ++ sd) 3), (b3, aO #[iV p.ll, iV p.lh, iV p.ul, iV p.uh, sV g2 p.es.length cap2] 26), (g2, cO ((trB p L (some ⟨g2, 0, none⟩) cap2).es.flatMap evR ++ sp2) 55), (b1, aO #[iV p.ll, iV p.lh, iV p.ul, iV p.uh, .slice p.ea p.es.length p.ec] 26)]⟩) (acc := [(.bool true, .bool true), (.bool (decide ((c : Int) < (kd : Int))), .bool true)]) (by kernel_rfl) (by kernel_rfl) ⟨rfl, (bo hd13), trivial⟩ ?_
                              refine run_v (Instr.indexAt 38 (sV gd kd cd) (iV (c : Int)) >>= fun v => pure (Next.value v)) (some 241) (.pointer (some ⟨gd, c, none⟩)) (by kernel_rfl) (fun w1 k1 h1 => idx_off (e := 3) (n := 1) (by kernel_rfl) (by kernel_rfl) gd (0) kd cd .i64 c (by omega) (c) (by omega) w1) ?_
                              refine run_v (Instr.loadAt 3 (.pointer (some ⟨gd, c, none⟩)) >>= fun v => pure (Next.value v)) (some 242) (iV (elI D c)) (by kernel_rfl) (fun w1 k1 h1 => load_own (e := 3) (fr := (0, 0)) (c := (D).flatMap inR ++ sd) h1 (List.mem_of_getElem? (i := 2) (by kernel_rfl)) (flat_loadF (c := inR) (n := 1) inR_len (by kernel_rfl) (i := c) (k := 0) (by first | omega | (simp; omega)) (by rw [inR_at (by first | omega | (simp; omega))]; rfl) (by omega))) ?_
                              refine run_auto [] 10 [] [] [4, 8, 9, 15, 19, 29, 30, 31, 32, 236, 237, 238, 33, 243, 244] [0, 1, 2, 3, 4, 5] (st' := ⟨[(4, pA b1), (8, .bool false), (9, pA b3), (15, iV m), (19, iV (T p.es.length).2), (29, iV dv), (30, iV de), (31, iV (N c).2), (32, .func (.func 88) #[] #[pA a6, pA b6]), (236, sV gd kd cd), (237, iV (kd : Int)), (238, iV (c : Int)), (33, iV (c : Int)), (243, iV (elI D c)), (244, iV 0)], [(a6, aO #[iV ((N c).1 : Int)] 3), (b6, aO #[.slice aa L.length lc] 43), (gd, cO ((D).flatMap inR ++ sd) 3), (b3, aO #[iV p.ll, iV p.lh, iV p.ul, iV p.uh, sV g2 p.es.length cap2] 26), (g2, cO ((trB p L (some ⟨g2, 0, none⟩) cap2).es.flatMap evR ++ sp2) 55), (b1, aO #[iV p.ll, iV p.lh, iV p.ul, iV p.uh, .slice p.ea p.es.length p.ec] 26)]⟩) (acc := []) (by kernel_rfl) (by kernel_rfl) trivial ?_
                              refine run_auto [] 0 [] [] [4, 8, 9, 15, 19, 29, 30, 31, 32, 236, 237, 238, 33, 243, 244] [0, 1, 2, 3, 4, 5] (st' := ⟨[(4, pA b1), (8, .bool false), (9, pA b3), (15, iV m), (19, iV (T p.es.length).2), (29, iV dv), (30, iV de), (31, iV (N c).2), (32, .func (.func 88) #[] #[pA a6, pA b6]), (236, sV gd kd cd), (237, iV (kd : Int)), (238, iV (c : Int)), (33, iV (c : Int)), (243, iV (elI D c)), (244, iV 0)], [(a6, aO #[iV ((N c).1 : Int)] 3), (b6, aO #[.slice aa L.length lc] 43), (gd, cO ((D).flatMap inR ++ sd) 3), (b3, aO #[iV p.ll, iV p.lh, iV p.ul, iV p.uh, sV g2 p.es.length cap2] 26), (g2, cO ((trB p L (some ⟨g2, 0, none⟩) cap2).es.flatMap evR ++ sp2) 55), (b1, aO #[iV p.ll, iV p.lh, iV p.ul, iV p.uh, .slice p.ea p.es.length p.ec] 26)]⟩) (acc := []) (by kernel_rfl) (by kernel_rfl) trivial ?_
                              refine run_loop (S := fun (t : Nat) => ⟨[(4, pA b1), (8, .bool false), (9, pA b3), (15, iV m), (19, iV (T p.es.length).2), (29, iV dv), (30, iV de), (31, iV (usD L (p.ul, p.uh) (N c).1 (N c).2 t)), (32, .func (.func 88) #[] #[pA a6, pA b6]), (236, sV gd kd cd), (237, iV (kd : Int)), (238, iV (c : Int)), (33, iV (c : Int)), (243, iV (elI D c)), (244, iV (t : Int))], [(a6, aO #[iV (((N c).1 + t : Nat) : Int)] 3), (b6, aO #[.slice aa L.length lc] 43), (gd, cO ((D).flatMap inR ++ sd) 3), (b3, aO #[iV p.ll, iV p.lh, iV p.ul, iV p.uh, sV g2 p.es.length cap2] 26), (g2, cO ((trB p L (some ⟨g2, 0, none⟩) cap2).es.flatMap evR ++ sp2) 55), (b1, aO #[iV p.ll, iV p.lh, iV p.ul, iV p.uh, .slice p.ea p.es.length p.ec] 26)]⟩) (fun t => (t : Int) ≤ elI D c) (fun t => 20 - t) (0) (by kernel_rfl) (by omega) (by simp [usD]) (fun t hI3 J3 hJ3 => ?_)
                              have hub := usD_bd L (u := (p.ul, p.uh)) hu0.2.1 (N c).1 (N c).2 t
                              have ht1 : 0 ≤ (t : Int) * p.ul := Int.mul_nonneg (by omega) hu0.1
                              have ht2 : (t : Int) * p.uh ≤ 20 * 3 := Int.mul_le_mul (by omega) hu0.2.2 (by omega) (by omega)
                              dsimp only at hub
                              have hdi := dw_in L ((N c).1 + t) (s := (p.ul, p.uh)) hu0.2.1
                              dsimp only at hdi
                              cases hd14 : (decide ((t : Int) < (elI D c))) with
                              | false =>
                                have hp14 := of_decide_eq_false hd14
                                have htn : (elI D c).toNat = t := by omega
                                have hst : N (c + 1) = ((N c).1 + (elI D c).toNat, usD L (p.ul, p.uh) (N c).1 (N c).2 (elI D c).toNat) := by rw [← hN]; rfl
                                rw [htn] at hst
                                have hnk := hNb (c + 1) (by omega)
                                rw [hst] at hnk
                                dsimp only at hnk
                                cases hd15 : (decide ((usD L (p.ul, p.uh) (N c).1 (N c).2 t) < m)) with
                                | false =>
                                  have hp15 := of_decide_eq_false hd15
                                  refine run_auto [(245, .bool false), (255, .bool false), (265, iV ((c + 1 : Nat) : Int))] 29 [false, false] [] [4, 8, 9, 15, 19, 29, 30, 31, 32, 236, 237, 238] [0, 1, 2, 3, 4, 5] (st' := ⟨[(4, pA b1), (8, .bool false), (9, pA b3), (15, iV m), (19, iV (T p.es.length).2), (29, iV dv), (30, iV de), (31, iV (usD L (p.ul, p.uh) (N c).1 (N c).2 t)), (32, .func (.func 88) #[] #[pA a6, pA b6]), (236, sV gd kd cd), (237, iV (kd : Int)), (238, iV ((c + 1 : Nat) : Int))], [(a6, aO #[iV (((N c).1 + t : Nat) : Int)] 3), (b6, aO #[.slice aa L.length lc] 43), (gd, cO ((D).flatMap inR ++ sd) 3), (b3, aO #[iV p.ll, iV p.lh, iV p.ul, iV p.uh, sV g2 p.es.length cap2] 26), (g2, cO ((trB p L (some ⟨g2, 0, none⟩) cap2).es.flatMap evR ++ sp2) 55), (b1, aO #[iV p.ll, iV p.lh, iV p.ul, iV p.uh, .slice p.ea p.es.length p.ec] 26)]⟩) (acc := [(iV (IntKind.i64.wrap ((c : Int) + 1)), iV ((c + 1 : Nat) : Int)), (.bool false, .bool false), (.bool (decide ((usD L (p.ul, p.uh) (N c).1 (N c).2 t) < m)), .bool false), (.bool false, .bool false), (.bool (decide ((t : Int) < (elI D c))), .bool false)]) (by kernel_rfl) (by kernel_rfl) ⟨(wr (by omega) (by omega)), rfl, (bo hd15), rfl, (bo hd14), trivial⟩ ?_
                                  have hj := hJ2 (c + 1) (by omega) (by omega)
                                  rw [hst] at hj
                                  exact run_round (by kernel_rfl) hj
                                | true =>
                                  have hp15 := of_decide_eq_true hd15
                                  have hle := hY.le (j := c) (by omega) (by omega)
                                  refine run_auto [(245, .bool false), (255, .bool true), (258, .bool true)] 27 [false, true] [] [4, 8, 9, 15, 19, 29, 30, 31, 32, 236, 237, 238] [0, 1, 2, 3, 4, 5] (st' := ⟨[(4, pA b1), (8, .bool false), (9, pA b3), (15, iV m), (19, iV (T p.es.length).2), (29, iV dv), (30, iV de), (31, iV (usD L (p.ul, p.uh) (N c).1 (N c).2 t)), (32, .func (.func 88) #[] #[pA a6, pA b6]), (236, sV gd kd cd), (237, iV (kd : Int)), (238, iV (c : Int))], [(a6, aO #[iV (((N c).1 + t : Nat) : Int)] 3), (b6, aO #[.slice aa L.length lc] 43), (gd, cO ((D).flatMap inR ++ sd) 3), (b3, aO #[iV p.ll, iV p.lh, iV p.ul, iV p.uh, sV g2 p.es.length cap2] 26), (g2, cO ((trB p L (some ⟨g2, 0, none⟩) cap2).es.flatMap evR ++ sp2) 55), (b1, aO #[iV p.ll, iV p.lh, iV p.ul, iV p.uh, .slice p.ea p.es.length p.ec] 26)]⟩) (acc := [(.bool true, .bool true), (.bool (de != 0), .bool true), (.bool (decide ((usD L (p.ul, p.uh) (N c).1 (N c).2 t) < m)), .bool true), (.bool false, .bool false), (.bool (decide ((t : Int) < (elI D c))), .bool false)]) (by kernel_rfl) (by kernel_rfl) ⟨rfl, (bo hd9), (bo hd15), rfl, (bo hd14), trivial⟩ ?_
                                  refine run_end (fn := f5) rfl (Nat.le_refl _) (by kernel_rfl) [] [.bool false] (e := []) (by kernel_rfl) trivial (fun w1 k1 h1 => ?_)
                                  exfalso
                                  omega
                              | true =>
                                have hp14 := of_decide_eq_true hd14
                                refine run_auto [(245, .bool true)] 14 [true] [5] [4, 8, 9, 15, 19, 29, 30, 31, 32, 236, 237, 238, 33, 243, 244, 246, 247, 249] [0, 1, 2, 3, 4, 5] (st' := ⟨[(4, pA b1), (8, .bool false), (9, pA b3), (15, iV m), (19, iV (T p.es.length).2), (29, iV dv), (30, iV de), (31, iV (usD L (p.ul, p.uh) (N c).1 (N c).2 t)), (32, .func (.func 88) #[] #[pA a6, pA b6]), (236, sV gd kd cd), (237, iV (kd : Int)), (238, iV (c : Int)), (33, iV (c : Int)), (243, iV (elI D c)), (244, iV (t : Int)), (246, iV (usD L (p.ul, p.uh) (N c).1 (N c).2 t)), (247, .func (.func 88) #[] #[pA a6, pA b6]), (249, .agg #[iV p.ul, iV p.uh])], [(a6, aO #[iV (((N c).1 + t : Nat) : Int)] 3), (b6, aO #[.slice aa L.length lc] 43), (gd, cO ((D).flatMap inR ++ sd) 3), (b3, aO #[iV p.ll, iV p.lh, iV p.ul, iV p.uh, sV g2 p.es.length cap2] 26), (g2, cO ((trB p L (some ⟨g2, 0, none⟩) cap2).es.flatMap evR ++ sp2) 55), (b1, aO #[iV p.ll, iV p.lh, iV p.ul, iV p.uh, .slice p.ea p.es.length p.ec] 26)]⟩) (acc := [(pA b1, pA b1), (.bool true, .bool true), (.bool (decide ((t : Int) < (elI D c))), .bool true)]) (by kernel_rfl) (by kernel_rfl) ⟨rfl, rfl, (bo hd14), trivial⟩ ?_
                                refine run_wr 88 #[.agg #[iV p.ul, iV p.uh], pA a6, pA b6] (some 250) (iV (dwS L ((N c).1 + t : Nat) (p.ul, p.uh))) 0 a6 (aO #[iV (((N c).1 + t : Nat) : Int)] 3) (aO #[iV ((((N c).1 + t : Nat) + 1 : Nat) : Int)] 3) (by kernel_rfl) (by kernel_rfl) (by kernel_rfl) (fun w1 k1 h1 => draw_any a6 b6 ((N c).1 + t : Nat) lc p.ul p.uh L aa (by omega) (by omega) (by omega) (by omega) w1 (h1 (a6, aO #[iV (((N c).1 + t : Nat) : Int)] 3) (List.mem_of_getElem? (i := 0) (by kernel_rfl))) (h1 (b6, aO #[.slice aa L.length lc] 43) (List.mem_of_getElem? (i := 1) (by kernel_rfl))) (hU.us (k1.keeps (fun _ h => h)) ha6) hlm) ?_
                                refine run_auto [(251, iV ((usD L (p.ul, p.uh) (N c).1 (N c).2 t) - (dwS L ((N c).1 + t : Nat) (p.ul, p.uh)))), (252, iV ((t + 1 : Nat) : Int))] 8 [] [] [4, 8, 9, 15, 19, 29, 30, 31, 32, 236, 237, 238, 33, 243, 244] [0, 1, 2, 3, 4, 5] (st' := ⟨[(4, pA b1), (8, .bool false), (9, pA b3), (15, iV m), (19, iV (T p.es.length).2), (29, iV dv), (30, iV de), (31, iV ((usD L (p.ul, p.uh) (N c).1 (N c).2 t) - (dwS L ((N c).1 + t : Nat) (p.ul, p.uh)))), (32, .func (.func 88) #[] #[pA a6, pA b6]), (236, sV gd kd cd), (237, iV (kd : Int)), (238, iV (c : Int)), (33, iV (c : Int)), (243, iV (elI D c)), (244, iV ((t + 1 : Nat) : Int))], [(a6, aO #[iV ((((N c).1 + t : Nat) + 1 : Nat) : Int)] 3), (b6, aO #[.slice aa L.length lc] 43), (gd, cO ((D).flatMap inR ++ sd) 3), (b3, aO #[iV p.ll, iV p.lh, iV p.ul, iV p.uh, sV g2 p.es.length cap2] 26), (g2, cO ((trB p L (some ⟨g2, 0, none⟩) cap2).es.flatMap evR ++ sp2) 55), (b1, aO #[iV p.ll, iV p.lh, iV p.ul, iV p.uh, .slice p.ea p.es.length p.ec] 26)]⟩) (acc := [(iV (IntKind.i64.wrap ((t : Int) + 1)), iV ((t + 1 : Nat) : Int)), (iV (IntKind.i64.wrap ((usD L (p.ul, p.uh) (N c).1 (N c).2 t) - (dwS L ((N c).1 + t : Nat) (p.ul, p.uh)))), iV ((usD L (p.ul, p.uh) (N c).1 (N c).2 t) - (dwS L ((N c).1 + t : Nat) (p.ul, p.uh))))]) (by kernel_rfl) (by kernel_rfl) ⟨(wr (by omega) (by omega)), (wr (by omega) (by omega)), trivial⟩ ?_
                                exact run_round (by kernel_rfl) (hJ3 (t + 1) (by omega) (by omega))
                          | true =>
                            have hp12 : de = 0 := by simpa using hd12
                            exfalso
                            omega
                        | true =>
                          have hp11 : ¬ dv = 0 := by simpa using hd11
                          exfalso
                          omega
                      | true =>
                        have hp10 : ¬ de = 4 := by simpa using hd10
                        exfalso
                        omega
                  | true =>
                    have hp8 := of_decide_eq_true hd8
                    have hil : i < xs.length := by omega
                    obtain ⟨bx, ox, hba, hcx⟩ := hB (by intro h; rw [h] at hil; cases hil)
                    have hc := hcx i hil
                    refine run_auto [(189, .bool true)] 12 [true] [] [1, 4, 8, 9, 15, 19, 26, 186, 187, 188, 190] [0, 1, 2, 3] (st' := ⟨[(1, .slice aa L.length lc), (4, pA b1), (8, .bool false), (9, pA b3), (15, iV m), (19, iV (T p.es.length).2), (26, sV gd kd cd), (186, .slice sa xs.length sk), (187, iV (xs.length : Int)), (188, iV (i : Int)), (190, iV (i : Int))], [(gd, cO ((Dl xs i).flatMap inR ++ sd) 3), (b3, aO #[iV p.ll, iV p.lh, iV p.ul, iV p.uh, sV g2 p.es.length cap2] 26), (g2, cO ((trB p L (some ⟨g2, 0, none⟩) cap2).es.flatMap evR ++ sp2) 55), (b1, aO #[iV p.ll, iV p.lh, iV p.ul, iV p.uh, .slice p.ea p.es.length p.ec] 26)]⟩) (acc := [(.bool true, .bool true), (.bool (decide ((i : Int) < (xs.length : Int))), .bool true)]) (by kernel_rfl) (by kernel_rfl) ⟨rfl, (bo hd8), trivial⟩ ?_
                    refine run_v (Instr.indexAt 45 (.slice sa xs.length sk) (iV (i : Int)) >>= fun v => pure (Next.value v)) (some 191) (.pointer (some ⟨bx, ox + i, none⟩)) (by kernel_rfl) (fun w1 k1 h1 => (by rw [hba]; exact idx_off (e := 5) (n := 1) (by kernel_rfl) (by kernel_rfl) bx ox xs.length sk .i64 i hil (ox + i) (by omega) w1)) ?_
                    refine run_v (Instr.loadAt 5 (.pointer (some ⟨bx, ox + i, none⟩)) >>= fun v => pure (Next.value v)) (some 192) (.int .u8 (elI xs i)) (by kernel_rfl) (fun w1 k1 h1 => load_in (off := 0) k1 (fun h => h) [.int .u8 (elI xs i)] (c1 hc.1) (by kernel_rfl)) ?_
                    cases hd9 : (decide ((i : Int) < 10)) with
                    | false =>
                      have hp9 := of_decide_eq_false hd9
                      refine run_auto [(194, .bool false), (201, iV ((i + 1 : Nat) : Int))] 15 [false] [] [1, 4, 8, 9, 15, 19, 26, 186, 187, 188] [0, 1, 2, 3] (st' := ⟨[(1, .slice aa L.length lc), (4, pA b1), (8, .bool false), (9, pA b3), (15, iV m), (19, iV (T p.es.length).2), (26, sV gd kd cd), (186, .slice sa xs.length sk), (187, iV (xs.length : Int)), (188, iV ((i + 1 : Nat) : Int))], [(gd, cO ((Dl xs i).flatMap inR ++ sd) 3), (b3, aO #[iV p.ll, iV p.lh, iV p.ul, iV p.uh, sV g2 p.es.length cap2] 26), (g2, cO ((trB p L (some ⟨g2, 0, none⟩) cap2).es.flatMap evR ++ sp2) 55), (b1, aO #[iV p.ll, iV p.lh, iV p.ul, iV p.uh, .slice p.ea p.es.length p.ec] 26)]⟩) (acc := [(iV (IntKind.i64.wrap ((i : Int) + 1)), iV ((i + 1 : Nat) : Int)), (.bool false, .bool false), (.bool (decide ((i : Int) < 10)), .bool false)]) (by kernel_rfl) (by kernel_rfl) ⟨(wr (by omega) (by omega)), rfl, (bo hd9), trivial⟩ ?_
                      have hst := Dl_no (xs := xs) (i := i) (by omega)
                      have hj := hJ1 ((i + 1, kd, some (gd, cd, sd))) (⟨by dsimp only; omega, by rw [hst]; exact hz2, hz4, hz5, hz6, by rw [hst]; exact hz7, hz8⟩) (by dsimp only; omega)
                      dsimp only at hj
                      rw [hst] at hj
                      exact run_round (by kernel_rfl) hj
                    | true =>
                      have hp9 := of_decide_eq_true hd9
                      refine run_auto [(194, .bool true), (197, iV (elI xs i)), (198, iV (elI xs i % 21))] 14 [true] [] [1, 4, 8, 9, 15, 19, 26, 186, 187, 188, 195, 198] [0, 1, 2, 3] (st' := ⟨[(1, .slice aa L.length lc), (4, pA b1), (8, .bool false), (9, pA b3), (15, iV m), (19, iV (T p.es.length).2), (26, sV gd kd cd), (186, .slice sa xs.length sk), (187, iV (xs.length : Int)), (188, iV (i : Int)), (195, sV gd kd cd), (198, iV (elI xs i % 21))], [(gd, cO ((Dl xs i).flatMap inR ++ sd) 3), (b3, aO #[iV p.ll, iV p.lh, iV p.ul, iV p.uh, sV g2 p.es.length cap2] 26), (g2, cO ((trB p L (some ⟨g2, 0, none⟩) cap2).es.flatMap evR ++ sp2) 55), (b1, aO #[iV p.ll, iV p.lh, iV p.ul, iV p.uh, .slice p.ea p.es.length p.ec] 26)]⟩) (acc := [(iV (Int.tmod (elI xs i) 21), iV (elI xs i % 21)), (iV (IntKind.i64.wrap (elI xs i)), iV (elI xs i)), (.bool true, .bool true), (.bool (decide ((i : Int) < 10)), .bool true)]) (by kernel_rfl) (by kernel_rfl) ⟨(rm 21 (by omega)), (wr (by omega) (by omega)), rfl, (bo hd9), trivial⟩ ?_
                      refine run_new (aO #[iV (elI xs i % 21)] 3) (fun b6 => sV b6 1 1) (some 199) (fun _ => by kernel_rfl) (fun b6 hb6 => ?_)
                      refine run_app (t := 38) (ty := 38) (e := 3) (n := 1) (z := (iV 0)) (by kernel_rfl) (by kernel_rfl) (by kernel_rfl) rfl (by kernel_rfl) inR inR_len inR_one (some 200) 1 gd kd 1 cd 1 (Dl xs i) ([(elI xs i % 21)] : List Int) sd ⟨b6, 0, none⟩ (by first | rfl | omega | (simp; done) | (simp; omega)) (by first | rfl | omega | (simp; done) | (simp; omega)) (by kernel_rfl) (by kernel_rfl) hz6 hz7 (fun w1 k1 h1 jq uq hu => by rw [add_none, Nat.zero_add]; exact cells_of_heap (h1 (b6, aO #[iV (elI xs i % 21)] 3) (List.mem_of_getElem? (i := 0) (by kernel_rfl))) jq uq hu) (by omega) hz8 (fun b7 cap7 sp7 hb7 hqb7 hmb7 hlb7 => ?_)
                      refine run_auto [(201, iV ((i + 1 : Nat) : Int))] 7 [] [] [1, 4, 8, 9, 15, 19, 26, 186, 187, 188] [0, 2, 3, 4] (st' := ⟨[(1, .slice aa L.length lc), (4, pA b1), (8, .bool false), (9, pA b3), (15, iV m), (19, iV (T p.es.length).2), (26, sV b7 (kd + 1) cap7), (186, .slice sa xs.length sk), (187, iV (xs.length : Int)), (188, iV ((i + 1 : Nat) : Int))], [(b7, cO ((Dl xs i ++ ([(elI xs i % 21)] : List Int)).flatMap inR ++ sp7) 3), (b3, aO #[iV p.ll, iV p.lh, iV p.ul, iV p.uh, sV g2 p.es.length cap2] 26), (g2, cO ((trB p L (some ⟨g2, 0, none⟩) cap2).es.flatMap evR ++ sp2) 55), (b1, aO #[iV p.ll, iV p.lh, iV p.ul, iV p.uh, .slice p.ea p.es.length p.ec] 26)]⟩) (acc := [(iV (IntKind.i64.wrap ((i : Int) + 1)), iV ((i + 1 : Nat) : Int))]) (by kernel_rfl) (by kernel_rfl) ⟨(wr (by omega) (by omega)), trivial⟩ ?_
                      have hst := Dl_yes hil (show i < 10 by omega)
                      have hj := hJ1 ((i + 1, kd + 1, some (b7, cap7, sp7))) (⟨by dsimp only; omega, by rw [hst]; rw [List.length_append, hz2]; rfl, by dsimp only; omega, hqb7, hmb7, by rw [hst]; exact hlb7, hb7⟩) (by dsimp only; omega)
                      dsimp only at hj
                      rw [hst] at hj
                      exact run_round (by kernel_rfl) hj
              | true =>
                have hp7 := of_decide_eq_true hd7
                exfalso
                omega
            | true =>
              have hp6 := of_decide_eq_true hd6
              exfalso
              omega
          | true =>
            have hp5 := of_decide_eq_true hd5
            exfalso
            omega
      | true =>
        have hp3 : ¬ ue = 0 := by simpa using hd3
        cases hd4 : (ue != 4) with
        | false =>
          have hp4 : ue = 4 := by simpa using hd4
          cases hd5 : (uv != 0) with
          | false =>
            have hp5 : uv = 0 := by simpa using hd5
            cases hd6 : (ue == 0) with
            | false =>
              have hp6 : ¬ ue = 0 := by simpa using hd6
              refine run_auto [(154, .bool true), (157, .bool false), (160, .bool false), (165, .bool false)] 57 [false] [] [1, 4, 8, 9, 15, 19, 26, 186, 187, 188] [0, 1, 2] (st' := ⟨[(1, .slice aa L.length lc), (4, pA b1), (8, .bool false), (9, pA b3), (15, iV m), (19, iV (T p.es.length).2), (26, .slice none 0 0), (186, .slice sa xs.length sk), (187, iV (xs.length : Int)), (188, iV 0)], [(b3, aO #[iV p.ll, iV p.lh, iV p.ul, iV p.uh, sV g2 p.es.length cap2] 26), (g2, cO ((trB p L (some ⟨g2, 0, none⟩) cap2).es.flatMap evR ++ sp2) 55), (b1, aO #[iV p.ll, iV p.lh, iV p.ul, iV p.uh, .slice p.ea p.es.length p.ec] 26)]⟩) (acc := [(.bool false, .bool false), (.bool (ue == 0), .bool false), (.bool (uv != 0), .bool false), (.bool (ue != 4), .bool false), (.bool (ue != 0), .bool true)]) (by kernel_rfl) (by kernel_rfl) ⟨rfl, (bo hd6), (bo hd5), (bo hd4), (bo hd3), trivial⟩ ?_
              refine run_auto [] 0 [] [] [1, 4, 8, 9, 15, 19, 26, 186, 187, 188] [0, 1, 2] (st' := ⟨[(1, .slice aa L.length lc), (4, pA b1), (8, .bool false), (9, pA b3), (15, iV m), (19, iV (T p.es.length).2), (26, .slice none 0 0), (186, .slice sa xs.length sk), (187, iV (xs.length : Int)), (188, iV 0)], [(b3, aO #[iV p.ll, iV p.lh, iV p.ul, iV p.uh, sV g2 p.es.length cap2] 26), (g2, cO ((trB p L (some ⟨g2, 0, none⟩) cap2).es.flatMap evR ++ sp2) 55), (b1, aO #[iV p.ll, iV p.lh, iV p.ul, iV p.uh, .slice p.ea p.es.length p.ec] 26)]⟩) (acc := []) (by kernel_rfl) (by kernel_rfl) trivial ?_
              refine run_loop (S := fun (v : Nat × Nat × Option (Nat × Nat × List Value)) => match v with | (i, _, none) => ⟨[(1, .slice aa L.length lc), (4, pA b1), (8, .bool false), (9, pA b3), (15, iV m), (19, iV (T p.es.length).2), (26, .slice none 0 0), (186, .slice sa xs.length sk), (187, iV (xs.length : Int)), (188, iV (i : Int))], [(b3, aO #[iV p.ll, iV p.lh, iV p.ul, iV p.uh, sV g2 p.es.length cap2] 26), (g2, cO ((trB p L (some ⟨g2, 0, none⟩) cap2).es.flatMap evR ++ sp2) 55), (b1, aO #[iV p.ll, iV p.lh, iV p.ul, iV p.uh, .slice p.ea p.es.length p.ec] 26)]⟩ | (i, kd, some (gd, cd, sd)) => ⟨[(1, .slice aa L.length lc), (4, pA b1), (8, .bool false), (9, pA b3), (15, iV m), (19, iV (T p.es.length).2), (26, sV gd kd cd), (186, .slice sa xs.length sk), (187, iV (xs.length : Int)), (188, iV (i : Int))], [(gd, cO ((Dl xs i).flatMap inR ++ sd) 3), (b3, aO #[iV p.ll, iV p.lh, iV p.ul, iV p.uh, sV g2 p.es.length cap2] 26), (g2, cO ((trB p L (some ⟨g2, 0, none⟩) cap2).es.flatMap evR ++ sp2) 55), (b1, aO #[iV p.ll, iV p.lh, iV p.ul, iV p.uh, .slice p.ea p.es.length p.ec] 26)]⟩) (fun v => v.1 ≤ xs.length ∧ (Dl xs v.1).length = v.2.1 ∧ match v.2.2 with | none => v.2.1 = 0 | some (g, cap, sp) => 1 ≤ v.2.1 ∧ v.2.1 ≤ cap ∧ cap ≤ maxLen ∧ ((Dl xs v.1).flatMap inR ++ sp).length = cap * 1 ∧ w.heap.size ≤ g) (fun v => xs.length - v.1) ((0, 0, none)) (by kernel_rfl) (⟨Nat.zero_le _, rfl, rfl⟩) (by simp) (fun v hI1 J1 hJ1 => ?_)
              obtain ⟨i, kd, _ | ⟨gd, cd, sd⟩⟩ := v
              · skip
                obtain ⟨hz1, hz2, hz3⟩ := hI1
                dsimp only at hz1 hz2 hz3
                have hzl := Dl_len xs i hz1
                have hxl2 : xs.length ≤ 2 ^ 63 - 1 := by have h := hxl; simp only [maxLen] at h; exact h
                cases hd7 : (decide ((i : Int) < (xs.length : Int))) with
                | false =>
                  have hp7 := of_decide_eq_false hd7
                  have hD : Dl xs i = D := by rw [show i = xs.length by omega]; exact hDe
                  rw [hD] at hz2
                  have hDk := hz2
                  have hDn : D = [] := List.eq_nil_of_length_eq_zero (by rw [hz2, hz3])
                  refine run_auto [(189, .bool false)] 12 [false] [0] [1, 4, 8, 9, 15, 19, 26, 203, 204, 205] [0, 1, 2] (st' := ⟨[(1, .slice aa L.length lc), (4, pA b1), (8, .bool false), (9, pA b3), (15, iV m), (19, iV (T p.es.length).2), (26, .slice none 0 0), (203, .agg #[iV p.ll, iV p.lh, iV p.ul, iV p.uh, sV g2 p.es.length cap2]), (204, iV m), (205, .slice none 0 0)], [(b3, aO #[iV p.ll, iV p.lh, iV p.ul, iV p.uh, sV g2 p.es.length cap2] 26), (g2, cO ((trB p L (some ⟨g2, 0, none⟩) cap2).es.flatMap evR ++ sp2) 55), (b1, aO #[iV p.ll, iV p.lh, iV p.ul, iV p.uh, .slice p.ea p.es.length p.ec] 26)]⟩) (acc := [(pA b3, pA b3), (.bool false, .bool false), (.bool (decide ((i : Int) < (xs.length : Int))), .bool false)]) (by kernel_rfl) (by kernel_rfl) ⟨rfl, rfl, (bo hd7), trivial⟩ ?_
                  refine run_ret1 24 #[.agg #[iV p.ll, iV p.lh, iV p.ul, iV p.uh, sV g2 p.es.length cap2], iV m, .slice none 0 0] (some 206) (.tuple #[iV dv, iV de]) (by kernel_rfl) (fun w1 k1 h1 => (by have h := Day_any (trB p L (some ⟨g2, 0, none⟩) cap2) m [] none 0 w1 ⟨Evs.of_flat (sp := sp2) (h1 (g2, cO ((trB p L (some ⟨g2, 0, none⟩) cap2).es.flatMap evR ++ sp2) 55) (List.mem_of_getElem? (i := 1) (by kernel_rfl))), by show (trB p L (some ⟨g2, 0, none⟩) cap2).es.length ≤ maxLen; rw [trB_len]; exact hp.ln⟩ Ins.nil (Nat.zero_le _); rw [show (trB p L (some ⟨g2, 0, none⟩) cap2).es.length = p.es.length from trB_len _ _ _ _] at h; rw [show dayR (trB p L (some ⟨g2, 0, none⟩) cap2) m [] = dayR q m D from by rw [hq, hDn], hdv, hde] at h; exact h)) ?_
                  cases hd8 : (de != 0) with
                  | false =>
                    have hp8 : de = 0 := by simpa using hd8
                    cases hd9 : (de == 0) with
                    | false =>
                      have hp9 : ¬ de = 0 := by simpa using hd9
                      exfalso
                      omega
                    | true =>
                      have hp9 : de = 0 := by simpa using hd9
                      cases hd10 : (decide (dv < 0)) with
                      | false =>
                        have hp10 := of_decide_eq_false hd10
                        cases hd11 : (decide (0 ≤ dv)) with
                        | false =>
                          have hp11 := of_decide_eq_false hd11
                          refine run_auto [(210, .bool false), (221, .bool true), (224, .bool false), (229, .bool false)] 40 [false] [] [4, 8, 9, 15, 19, 26, 29, 30, 233, 234] [0, 1, 2] (st' := ⟨[(4, pA b1), (8, .bool false), (9, pA b3), (15, iV m), (19, iV (T p.es.length).2), (26, .slice none 0 0), (29, iV dv), (30, iV de), (233, iV (T p.es.length).2), (234, .slice aa L.length lc)], [(b3, aO #[iV p.ll, iV p.lh, iV p.ul, iV p.uh, sV g2 p.es.length cap2] 26), (g2, cO ((trB p L (some ⟨g2, 0, none⟩) cap2).es.flatMap evR ++ sp2) 55), (b1, aO #[iV p.ll, iV p.lh, iV p.ul, iV p.uh, .slice p.ea p.es.length p.ec] 26)]⟩) (acc := [(.bool false, .bool false), (.bool (decide (0 ≤ dv)), .bool false), (.bool (decide (dv < 0)), .bool false), (.bool (de == 0), .bool true), (.bool (de != 0), .bool false)]) (by kernel_rfl) (by kernel_rfl) ⟨rfl, (bo hd11), (bo hd10), (bo hd9), (bo hd8), trivial⟩ ?_
                          refine run_nwl 31 #[.slice aa L.length lc] (some 235) (α := Nat × Nat) (fun x => .func (.func 88) #[] #[.pointer (some ⟨(x.1), 0, none⟩), .pointer (some ⟨(x.2), 0, none⟩)]) (fun x => [((x.1), aO #[iV 0] 3), ((x.2), aO #[.slice aa L.length lc] 43)]) (fun x => True) (by kernel_rfl) (fun x p hp => by simp only [List.mem_cons, List.not_mem_nil, or_false] at hp; rcases hp with rfl | rfl <;> rfl) (fun w1 k1 h1 => draws_any L aa lc w1) (fun x hI6 hn6 => ?_)
                          obtain ⟨a6, b6⟩ := x
                          dsimp only at hI6 hn6
                          have ha6 := hn6 _ (List.mem_of_getElem? (i := 0) rfl)
                          have hb6 := hn6 _ (List.mem_of_getElem? (i := 1) rfl)
                          refine run_auto [] 11 [] [] [4, 8, 9, 15, 19, 29, 30, 31, 32, 236, 237, 238] [0, 1, 2, 3, 4] (st' := ⟨[(4, pA b1), (8, .bool false), (9, pA b3), (15, iV m), (19, iV (T p.es.length).2), (29, iV dv), (30, iV de), (31, iV (T p.es.length).2), (32, .func (.func 88) #[] #[pA a6, pA b6]), (236, .slice none 0 0), (237, iV 0), (238, iV 0)], [(a6, aO #[iV 0] 3), (b6, aO #[.slice aa L.length lc] 43), (b3, aO #[iV p.ll, iV p.lh, iV p.ul, iV p.uh, sV g2 p.es.length cap2] 26), (g2, cO ((trB p L (some ⟨g2, 0, none⟩) cap2).es.flatMap evR ++ sp2) 55), (b1, aO #[iV p.ll, iV p.lh, iV p.ul, iV p.uh, .slice p.ea p.es.length p.ec] 26)]⟩) (acc := []) (by kernel_rfl) (by kernel_rfl) trivial ?_
                          refine run_auto [] 0 [] [] [4, 8, 9, 15, 19, 29, 30, 31, 32, 236, 237, 238] [0, 1, 2, 3, 4] (st' := ⟨[(4, pA b1), (8, .bool false), (9, pA b3), (15, iV m), (19, iV (T p.es.length).2), (29, iV dv), (30, iV de), (31, iV (T p.es.length).2), (32, .func (.func 88) #[] #[pA a6, pA b6]), (236, .slice none 0 0), (237, iV 0), (238, iV 0)], [(a6, aO #[iV 0] 3), (b6, aO #[.slice aa L.length lc] 43), (b3, aO #[iV p.ll, iV p.lh, iV p.ul, iV p.uh, sV g2 p.es.length cap2] 26), (g2, cO ((trB p L (some ⟨g2, 0, none⟩) cap2).es.flatMap evR ++ sp2) 55), (b1, aO #[iV p.ll, iV p.lh, iV p.ul, iV p.uh, .slice p.ea p.es.length p.ec] 26)]⟩) (acc := []) (by kernel_rfl) (by kernel_rfl) trivial ?_
                          refine run_loop (S := fun (c : Nat) => ⟨[(4, pA b1), (8, .bool false), (9, pA b3), (15, iV m), (19, iV (T p.es.length).2), (29, iV dv), (30, iV de), (31, iV (N c).2), (32, .func (.func 88) #[] #[pA a6, pA b6]), (236, .slice none 0 0), (237, iV 0), (238, iV (c : Int))], [(a6, aO #[iV ((N c).1 : Int)] 3), (b6, aO #[.slice aa L.length lc] 43), (b3, aO #[iV p.ll, iV p.lh, iV p.ul, iV p.uh, sV g2 p.es.length cap2] 26), (g2, cO ((trB p L (some ⟨g2, 0, none⟩) cap2).es.flatMap evR ++ sp2) 55), (b1, aO #[iV p.ll, iV p.lh, iV p.ul, iV p.uh, .slice p.ea p.es.length p.ec] 26)]⟩) (fun c => c ≤ 0) (fun c => 0 - c) (0) (by kernel_rfl) (Nat.zero_le _) (by rw [← hN]; kernel_rfl) (fun c hI2 J2 hJ2 => ?_)
                          have hNc := hNb c (by omega)
                          have hnb := now_bd hqF hD10 hDv (i := c) (by omega)
                          cases hd12 : (decide ((c : Int) < 0)) with
                          | false =>
                            have hp12 := of_decide_eq_false hd12
                            refine run_auto [(239, .bool false)] 8 [false] [] [8, 9, 19] [2, 3] (st' := ⟨[(8, .bool false), (9, pA b3), (19, iV (T p.es.length).2)], [(b3, aO #[iV p.ll, iV p.lh, iV p.ul, iV p.uh, sV g2 p.es.length cap2] 26), (g2, cO ((trB p L (some ⟨g2, 0, none⟩) cap2).es.flatMap evR ++ sp2) 55)]⟩) (acc := [(.bool false, .bool false), (.bool (decide ((c : Int) < 0)), .bool false)]) (by kernel_rfl) (by kernel_rfl) ⟨rfl, (bo hd12), trivial⟩ ?_
                            refine drawW 10 [{ val := fun _ => .agg #[iV p.ll, iV p.lh, iV p.ul, iV p.uh, sV g2 p.es.length cap2], slots := [9], reads := [0] },
                                                          { val := fun _ => iV (T p.es.length).2, slots := [19] },
                                                          { val := fun _ => iV (T p.es.length).2, slots := [19] },
                                                          { val := fun _ => .agg #[iV (T p.es.length).2, iV (T p.es.length).2], slots := [268, 269] },
                                                          { val := fun _ => .tuple #[iV gr, iV 0], slots := [267, 270], reads := [1] },
                                                          { val := fun _ => .tuple #[iV gr, iV 0], slots := [271] },
                                                          { val := fun _ => iV gr, slots := [266] },
                                                          { val := fun _ => iV 0, slots := [266] },
                                                          { val := fun _ => iV gr, slots := [272] },
                                                          { val := fun _ => iV 0, slots := [273] }] [[], [], [], [1, 2], [0, 1, 2, 3], [0, 1, 2, 3, 4], [0, 1, 2, 3, 4, 5], [0, 1, 2, 3, 4, 5], [0, 1, 2, 3, 4, 5, 6], [0, 1, 2, 3, 4, 5, 6, 7, 8]] (by kernel_rfl) (by kernel_rfl) (by kernel_rfl) (by kernel_rfl) [8, 35, 36] [] (by kernel_rfl)
                                                          ⟨⟨⟨⟨⟨⟨⟨⟨⟨⟨trivial,
                                                          tri_quietW (fun β => []) [0] [0] (fun β => [(pA b3, pA b3)]) (by kernel_rfl) (fun β extra => by kernel_rfl) (by kernel_rfl) (fun β => ⟨rfl, trivial⟩)⟩,
                                                          tri_quietW (fun β => []) [] [] (fun β => []) (by kernel_rfl) (fun β extra => by kernel_rfl) (by kernel_rfl) (fun β => trivial)⟩,
                                                          tri_quietW (fun β => []) [] [] (fun β => []) (by kernel_rfl) (fun β extra => by kernel_rfl) (by kernel_rfl) (fun β => trivial)⟩,
                                                          tri_callVW (fun β => .agg #[iV (T p.es.length).2, iV (T p.es.length).2]) (fun β => by kernel_rfl) 32 (fun β => #[iV (T p.es.length).2, iV (T p.es.length).2]) (by kernel_rfl) (fun β extra => by kernel_rfl) (fun β => by kernel_rfl) (fun β w1 k1 h1 => span_any (T p.es.length).2 (T p.es.length).2 w1)⟩,
                                                          tri_callVW (fun β => .tuple #[iV gr, iV 0]) (fun β => by kernel_rfl) 20 (fun β => #[.agg #[iV p.ll, iV p.lh, iV p.ul, iV p.uh, sV g2 p.es.length cap2], .agg #[iV (T p.es.length).2, iV (T p.es.length).2]]) (by kernel_rfl) (fun β extra => by kernel_rfl) (fun β => by kernel_rfl) (fun β w1 k1 h1 => (by have h := Fits_any (trB p L (some ⟨g2, 0, none⟩) cap2) ((T p.es.length).2, (T p.es.length).2) w1 ⟨Evs.of_flat (sp := sp2) (h1 (g2, cO ((trB p L (some ⟨g2, 0, none⟩) cap2).es.flatMap evR ++ sp2) 55) (List.mem_of_getElem? (i := 0) (by kernel_rfl))), by show (trB p L (some ⟨g2, 0, none⟩) cap2).es.length ≤ maxLen; rw [trB_len]; exact hp.ln⟩; rw [show (trB p L (some ⟨g2, 0, none⟩) cap2).es.length = p.es.length from trB_len _ _ _ _] at h; rw [show fitsR (trB p L (some ⟨g2, 0, none⟩) cap2) ((T p.es.length).2, (T p.es.length).2) = .inr gr from by rw [hq]; exact fitsR_ok hqF hqc hs1 (by rw [hql]; exact hgr)] at h; exact h))⟩,
                                                          tri_quietW (fun β => []) [] [] (fun β => []) (by kernel_rfl) (fun β extra => by kernel_rfl) (by kernel_rfl) (fun β => trivial)⟩,
                                                          tri_quietW (fun β => []) [] [] (fun β => []) (by kernel_rfl) (fun β extra => by kernel_rfl) (by kernel_rfl) (fun β => trivial)⟩,
                                                          tri_quietW (fun β => []) [] [] (fun β => []) (by kernel_rfl) (fun β extra => by kernel_rfl) (by kernel_rfl) (fun β => trivial)⟩,
                                                          tri_quietW (fun β => []) [] [] (fun β => []) (by kernel_rfl) (fun β extra => by kernel_rfl) (by kernel_rfl) (fun β => trivial)⟩,
                                                          tri_quietW (fun β => []) [] [] (fun β => []) (by kernel_rfl) (fun β extra => by kernel_rfl) (by kernel_rfl) (fun β => trivial)⟩
                                                          (fun β => ⟨[(8, .bool false), (35, iV gr), (36, iV 0)], []⟩) (fun β => by kernel_rfl) (fun β7 => ?_)
                            cases hd13 : (gr != 0) with
                            | false =>
                              have hp13 : gr = 0 := by simpa using hd13
                              exfalso
                              omega
                            | true =>
                              have hp13 : ¬ gr = 0 := by simpa using hd13
                              refine run_auto [(275, .bool true), (278, .bool true)] 9 [] [] [8, 280] [] (st' := ⟨[(8, .bool false), (280, .bool true)], []⟩) (acc := [(.bool (gr != 0), .bool true), (.bool true, .bool true)]) (by kernel_rfl) (by kernel_rfl) ⟨(bo hd13), rfl, trivial⟩ ?_
                              refine run_ret1 13 #[] (some 281) (.bool true) (by kernel_rfl) (fun w1 k1 h1 => awake_any w1) ?_
                              refine run_auto [] 3 [] [] [8] [] (st' := ⟨[(8, .bool true)], []⟩) (acc := []) (by kernel_rfl) (by kernel_rfl) trivial ?_
                              refine run_end (fn := f5) rfl (Nat.le_refl _) (by kernel_rfl) [] [.bool true] (e := []) (by kernel_rfl) trivial (fun w1 k1 h1 => ?_)
                              exact ⟨rfl, k1.keeps (fun _ h => h)⟩
                          | true =>
                            have hp12 := of_decide_eq_true hd12
                            exfalso
                            omega
                        | true =>
                          have hp11 := of_decide_eq_true hd11
                          exfalso
                          omega
                      | true =>
                        have hp10 := of_decide_eq_true hd10
                        exfalso
                        omega
                  | true =>
                    have hp8 : ¬ de = 0 := by simpa using hd8
                    cases hd9 : (de != 4) with
                    | false =>
                      have hp9 : de = 4 := by simpa using hd9
                      cases hd10 : (dv != 0) with
                      | false =>
                        have hp10 : dv = 0 := by simpa using hd10
                        cases hd11 : (de == 0) with
                        | false =>
                          have hp11 : ¬ de = 0 := by simpa using hd11
                          refine run_auto [(210, .bool true), (213, .bool false), (216, .bool false), (221, .bool false)] 40 [false] [] [4, 8, 9, 15, 19, 26, 29, 30, 233, 234] [0, 1, 2] (st' := ⟨[(4, pA b1), (8, .bool false), (9, pA b3), (15, iV m), (19, iV (T p.es.length).2), (26, .slice none 0 0), (29, iV dv), (30, iV de), (233, iV (T p.es.length).2), (234, .slice aa L.length lc)], [(b3, aO #[iV p.ll, iV p.lh, iV p.ul, iV p.uh, sV g2 p.es.length cap2] 26), (g2, cO ((trB p L (some ⟨g2, 0, none⟩) cap2).es.flatMap evR ++ sp2) 55), (b1, aO #[iV p.ll, iV p.lh, iV p.ul, iV p.uh, .slice p.ea p.es.length p.ec] 26)]⟩) (acc := [(.bool false, .bool false), (.bool (de == 0), .bool false), (.bool (dv != 0), .bool false), (.bool (de != 4), .bool false), (.bool (de != 0), .bool true)]) (by kernel_rfl) (by kernel_rfl) ⟨rfl, (bo hd11), (bo hd10), (bo hd9), (bo hd8), trivial⟩ ?_
                          refine run_nwl 31 #[.slice aa L.length lc] (some 235) (α := Nat × Nat) (fun x => .func (.func 88) #[] #[.pointer (some ⟨(x.1), 0, none⟩), .pointer (some ⟨(x.2), 0, none⟩)]) (fun x => [((x.1), aO #[iV 0] 3), ((x.2), aO #[.slice aa L.length lc] 43)]) (fun x => True) (by kernel_rfl) (fun x p hp => by simp only [List.mem_cons, List.not_mem_nil, or_false] at hp; rcases hp with rfl | rfl <;> rfl) (fun w1 k1 h1 => draws_any L aa lc w1) (fun x hI6 hn6 => ?_)
                          obtain ⟨a6, b6⟩ := x
                          dsimp only at hI6 hn6
                          have ha6 := hn6 _ (List.mem_of_getElem? (i := 0) rfl)
                          have hb6 := hn6 _ (List.mem_of_getElem? (i := 1) rfl)
                          refine run_auto [] 11 [] [] [4, 8, 9, 15, 19, 29, 30, 31, 32, 236, 237, 238] [0, 1, 2, 3, 4] (st' := ⟨[(4, pA b1), (8, .bool false), (9, pA b3), (15, iV m), (19, iV (T p.es.length).2), (29, iV dv), (30, iV de), (31, iV (T p.es.length).2), (32, .func (.func 88) #[] #[pA a6, pA b6]), (236, .slice none 0 0), (237, iV 0), (238, iV 0)], [(a6, aO #[iV 0] 3), (b6, aO #[.slice aa L.length lc] 43), (b3, aO #[iV p.ll, iV p.lh, iV p.ul, iV p.uh, sV g2 p.es.length cap2] 26), (g2, cO ((trB p L (some ⟨g2, 0, none⟩) cap2).es.flatMap evR ++ sp2) 55), (b1, aO #[iV p.ll, iV p.lh, iV p.ul, iV p.uh, .slice p.ea p.es.length p.ec] 26)]⟩) (acc := []) (by kernel_rfl) (by kernel_rfl) trivial ?_
                          refine run_auto [] 0 [] [] [4, 8, 9, 15, 19, 29, 30, 31, 32, 236, 237, 238] [0, 1, 2, 3, 4] (st' := ⟨[(4, pA b1), (8, .bool false), (9, pA b3), (15, iV m), (19, iV (T p.es.length).2), (29, iV dv), (30, iV de), (31, iV (T p.es.length).2), (32, .func (.func 88) #[] #[pA a6, pA b6]), (236, .slice none 0 0), (237, iV 0), (238, iV 0)], [(a6, aO #[iV 0] 3), (b6, aO #[.slice aa L.length lc] 43), (b3, aO #[iV p.ll, iV p.lh, iV p.ul, iV p.uh, sV g2 p.es.length cap2] 26), (g2, cO ((trB p L (some ⟨g2, 0, none⟩) cap2).es.flatMap evR ++ sp2) 55), (b1, aO #[iV p.ll, iV p.lh, iV p.ul, iV p.uh, .slice p.ea p.es.length p.ec] 26)]⟩) (acc := []) (by kernel_rfl) (by kernel_rfl) trivial ?_
                          refine run_loop (S := fun (c : Nat) => ⟨[(4, pA b1), (8, .bool false), (9, pA b3), (15, iV m), (19, iV (T p.es.length).2), (29, iV dv), (30, iV de), (31, iV (N c).2), (32, .func (.func 88) #[] #[pA a6, pA b6]), (236, .slice none 0 0), (237, iV 0), (238, iV (c : Int))], [(a6, aO #[iV ((N c).1 : Int)] 3), (b6, aO #[.slice aa L.length lc] 43), (b3, aO #[iV p.ll, iV p.lh, iV p.ul, iV p.uh, sV g2 p.es.length cap2] 26), (g2, cO ((trB p L (some ⟨g2, 0, none⟩) cap2).es.flatMap evR ++ sp2) 55), (b1, aO #[iV p.ll, iV p.lh, iV p.ul, iV p.uh, .slice p.ea p.es.length p.ec] 26)]⟩) (fun c => c ≤ 0) (fun c => 0 - c) (0) (by kernel_rfl) (Nat.zero_le _) (by rw [← hN]; kernel_rfl) (fun c hI2 J2 hJ2 => ?_)
                          have hNc := hNb c (by omega)
                          have hnb := now_bd hqF hD10 hDv (i := c) (by omega)
                          cases hd12 : (decide ((c : Int) < 0)) with
                          | false =>
                            have hp12 := of_decide_eq_false hd12
                            refine run_auto [(239, .bool false)] 8 [false] [] [8, 9, 19] [2, 3] (st' := ⟨[(8, .bool false), (9, pA b3), (19, iV (T p.es.length).2)], [(b3, aO #[iV p.ll, iV p.lh, iV p.ul, iV p.uh, sV g2 p.es.length cap2] 26), (g2, cO ((trB p L (some ⟨g2, 0, none⟩) cap2).es.flatMap evR ++ sp2) 55)]⟩) (acc := [(.bool false, .bool false), (.bool (decide ((c : Int) < 0)), .bool false)]) (by kernel_rfl) (by kernel_rfl) ⟨rfl, (bo hd12), trivial⟩ ?_
                            refine drawW 10 [{ val := fun _ => .agg #[iV p.ll, iV p.lh, iV p.ul, iV p.uh, sV g2 p.es.length cap2], slots := [9], reads := [0] },
                                                          { val := fun _ => iV (T p.es.length).2, slots := [19] },
                                                          { val := fun _ => iV (T p.es.length).2, slots := [19] },
                                                          { val := fun _ => .agg #[iV (T p.es.length).2, iV (T p.es.length).2], slots := [268, 269] },
                                                          { val := fun _ => .tuple #[iV gr, iV 0], slots := [267, 270], reads := [1] },
                                                          { val := fun _ => .tuple #[iV gr, iV 0], slots := [271] },
                                                          { val := fun _ => iV gr, slots := [266] },
                                                          { val := fun _ => iV 0, slots := [266] },
                                                          { val := fun _ => iV gr, slots := [272] },
                                                          { val := fun _ => iV 0, slots := [273] }] [[], [], [], [1, 2], [0, 1, 2, 3], [0, 1, 2, 3, 4], [0, 1, 2, 3, 4, 5], [0, 1, 2, 3, 4, 5], [0, 1, 2, 3, 4, 5, 6], [0, 1, 2, 3, 4, 5, 6, 7, 8]] (by kernel_rfl) (by kernel_rfl) (by kernel_rfl) (by kernel_rfl) [8, 35, 36] [] (by kernel_rfl)
                                                          ⟨⟨⟨⟨⟨⟨⟨⟨⟨⟨trivial,
                                                          tri_quietW (fun β => []) [0] [0] (fun β => [(pA b3, pA b3)]) (by kernel_rfl) (fun β extra => by kernel_rfl) (by kernel_rfl) (fun β => ⟨rfl, trivial⟩)⟩,
                                                          tri_quietW (fun β => []) [] [] (fun β => []) (by kernel_rfl) (fun β extra => by kernel_rfl) (by kernel_rfl) (fun β => trivial)⟩,
                                                          tri_quietW (fun β => []) [] [] (fun β => []) (by kernel_rfl) (fun β extra => by kernel_rfl) (by kernel_rfl) (fun β => trivial)⟩,
                                                          tri_callVW (fun β => .agg #[iV (T p.es.length).2, iV (T p.es.length).2]) (fun β => by kernel_rfl) 32 (fun β => #[iV (T p.es.length).2, iV (T p.es.length).2]) (by kernel_rfl) (fun β extra => by kernel_rfl) (fun β => by kernel_rfl) (fun β w1 k1 h1 => span_any (T p.es.length).2 (T p.es.length).2 w1)⟩,
                                                          tri_callVW (fun β => .tuple #[iV gr, iV 0]) (fun β => by kernel_rfl) 20 (fun β => #[.agg #[iV p.ll, iV p.lh, iV p.ul, iV p.uh, sV g2 p.es.length cap2], .agg #[iV (T p.es.length).2, iV (T p.es.length).2]]) (by kernel_rfl) (fun β extra => by kernel_rfl) (fun β => by kernel_rfl) (fun β w1 k1 h1 => (by have h := Fits_any (trB p L (some ⟨g2, 0, none⟩) cap2) ((T p.es.length).2, (T p.es.length).2) w1 ⟨Evs.of_flat (sp := sp2) (h1 (g2, cO ((trB p L (some ⟨g2, 0, none⟩) cap2).es.flatMap evR ++ sp2) 55) (List.mem_of_getElem? (i := 0) (by kernel_rfl))), by show (trB p L (some ⟨g2, 0, none⟩) cap2).es.length ≤ maxLen; rw [trB_len]; exact hp.ln⟩; rw [show (trB p L (some ⟨g2, 0, none⟩) cap2).es.length = p.es.length from trB_len _ _ _ _] at h; rw [show fitsR (trB p L (some ⟨g2, 0, none⟩) cap2) ((T p.es.length).2, (T p.es.length).2) = .inr gr from by rw [hq]; exact fitsR_ok hqF hqc hs1 (by rw [hql]; exact hgr)] at h; exact h))⟩,
                                                          tri_quietW (fun β => []) [] [] (fun β => []) (by kernel_rfl) (fun β extra => by kernel_rfl) (by kernel_rfl) (fun β => trivial)⟩,
                                                          tri_quietW (fun β => []) [] [] (fun β => []) (by kernel_rfl) (fun β extra => by kernel_rfl) (by kernel_rfl) (fun β => trivial)⟩,
                                                          tri_quietW (fun β => []) [] [] (fun β => []) (by kernel_rfl) (fun β extra => by kernel_rfl) (by kernel_rfl) (fun β => trivial)⟩,
                                                          tri_quietW (fun β => []) [] [] (fun β => []) (by kernel_rfl) (fun β extra => by kernel_rfl) (by kernel_rfl) (fun β => trivial)⟩,
                                                          tri_quietW (fun β => []) [] [] (fun β => []) (by kernel_rfl) (fun β extra => by kernel_rfl) (by kernel_rfl) (fun β => trivial)⟩
                                                          (fun β => ⟨[(8, .bool false), (35, iV gr), (36, iV 0)], []⟩) (fun β => by kernel_rfl) (fun β7 => ?_)
                            cases hd13 : (gr != 0) with
                            | false =>
                              have hp13 : gr = 0 := by simpa using hd13
                              exfalso
                              omega
                            | true =>
                              have hp13 : ¬ gr = 0 := by simpa using hd13
                              refine run_auto [(275, .bool true), (278, .bool true)] 9 [] [] [8, 280] [] (st' := ⟨[(8, .bool false), (280, .bool true)], []⟩) (acc := [(.bool (gr != 0), .bool true), (.bool true, .bool true)]) (by kernel_rfl) (by kernel_rfl) ⟨(bo hd13), rfl, trivial⟩ ?_
                              refine run_ret1 13 #[] (some 281) (.bool true) (by kernel_rfl) (fun w1 k1 h1 => awake_any w1) ?_
                              refine run_auto [] 3 [] [] [8] [] (st' := ⟨[(8, .bool true)], []⟩) (acc := []) (by kernel_rfl) (by kernel_rfl) trivial ?_
                              refine run_end (fn := f5) rfl (Nat.le_refl _) (by kernel_rfl) [] [.bool true] (e := []) (by kernel_rfl) trivial (fun w1 k1 h1 => ?_)
                              exact ⟨rfl, k1.keeps (fun _ h => h)⟩
                          | true =>
                            have hp12 := of_decide_eq_true hd12
                            exfalso
                            omega
                        | true =>
                          have hp11 : de = 0 := by simpa using hd11
                          exfalso
                          omega
                      | true =>
                        have hp10 : ¬ dv = 0 := by simpa using hd10
                        exfalso
                        omega
                    | true =>
                      have hp9 : ¬ de = 4 := by simpa using hd9
                      exfalso
                      omega
                | true =>
                  have hp7 := of_decide_eq_true hd7
                  have hil : i < xs.length := by omega
                  obtain ⟨bx, ox, hba, hcx⟩ := hB (by intro h; rw [h] at hil; cases hil)
                  have hc := hcx i hil
                  refine run_auto [(189, .bool true)] 12 [true] [] [1, 4, 8, 9, 15, 19, 26, 186, 187, 188, 190] [0, 1, 2] (st' := ⟨[(1, .slice aa L.length lc), (4, pA b1), (8, .bool false), (9, pA b3), (15, iV m), (19, iV (T p.es.length).2), (26, .slice none 0 0), (186, .slice sa xs.length sk), (187, iV (xs.length : Int)), (188, iV (i : Int)), (190, iV (i : Int))], [(b3, aO #[iV p.ll, iV p.lh, iV p.ul, iV p.uh, sV g2 p.es.length cap2] 26), (g2, cO ((trB p L (some ⟨g2, 0, none⟩) cap2).es.flatMap evR ++ sp2) 55), (b1, aO #[iV p.ll, iV p.lh, iV p.ul, iV p.uh, .slice p.ea p.es.length p.ec] 26)]⟩) (acc := [(.bool true, .bool true), (.bool (decide ((i : Int) < (xs.length : Int))), .bool true)]) (by kernel_rfl) (by kernel_rfl) ⟨rfl, (bo hd7), trivial⟩ ?_
                  refine run_v (Instr.indexAt 45 (.slice sa xs.length sk) (iV (i : Int)) >>= fun v => pure (Next.value v)) (some 191) (.pointer (some ⟨bx, ox + i, none⟩)) (by kernel_rfl) (fun w1 k1 h1 => (by rw [hba]; exact idx_off (e := 5) (n := 1) (by kernel_rfl) (by kernel_rfl) bx ox xs.length sk .i64 i hil (ox + i) (by omega) w1)) ?_
                  refine run_v (Instr.loadAt 5 (.pointer (some ⟨bx, ox + i, none⟩)) >>= fun v => pure (Next.value v)) (some 192) (.int .u8 (elI xs i)) (by kernel_rfl) (fun w1 k1 h1 => load_in (off := 0) k1 (fun h => h) [.int .u8 (elI xs i)] (c1 hc.1) (by kernel_rfl)) ?_
                  cases hd8 : (decide ((i : Int) < 10)) with
                  | false =>
                    have hp8 := of_decide_eq_false hd8
                    refine run_auto [(194, .bool false), (201, iV ((i + 1 : Nat) : Int))] 15 [false] [] [1, 4, 8, 9, 15, 19, 26, 186, 187, 188] [0, 1, 2] (st' := ⟨[(1, .slice aa L.length lc), (4, pA b1), (8, .bool false), (9, pA b3), (15, iV m), (19, iV (T p.es.length).2), (26, .slice none 0 0), (186, .slice sa xs.length sk), (187, iV (xs.length : Int)), (188, iV ((i + 1 : Nat) : Int))], [(b3, aO #[iV p.ll, iV p.lh, iV p.ul, iV p.uh, sV g2 p.es.length cap2] 26), (g2, cO ((trB p L (some ⟨g2, 0, none⟩) cap2).es.flatMap evR ++ sp2) 55), (b1, aO #[iV p.ll, iV p.lh, iV p.ul, iV p.uh, .slice p.ea p.es.length p.ec] 26)]⟩) (acc := [(iV (IntKind.i64.wrap ((i : Int) + 1)), iV ((i + 1 : Nat) : Int)), (.bool false, .bool false), (.bool (decide ((i : Int) < 10)), .bool false)]) (by kernel_rfl) (by kernel_rfl) ⟨(wr (by omega) (by omega)), rfl, (bo hd8), trivial⟩ ?_
                    have hst := Dl_no (xs := xs) (i := i) (by omega)
                    have hj := hJ1 ((i + 1, 0, none)) (⟨by dsimp only; omega, by rw [hst, hz2, hz3], rfl⟩) (by dsimp only; omega)
                    dsimp only at hj
                    exact run_round (by kernel_rfl) hj
                  | true =>
                    have hp8 := of_decide_eq_true hd8
                    refine run_auto [(194, .bool true), (197, iV (elI xs i)), (198, iV (elI xs i % 21))] 14 [true] [] [1, 4, 8, 9, 15, 19, 26, 186, 187, 188, 195, 198] [0, 1, 2] (st' := ⟨[(1, .slice aa L.length lc), (4, pA b1), (8, .bool false), (9, pA b3), (15, iV m), (19, iV (T p.es.length).2), (26, .slice none 0 0), (186, .slice sa xs.length sk), (187, iV (xs.length : Int)), (188, iV (i : Int)), (195, .slice none 0 0), (198, iV (elI xs i % 21))], [(b3, aO #[iV p.ll, iV p.lh, iV p.ul, iV p.uh, sV g2 p.es.length cap2] 26), (g2, cO ((trB p L (some ⟨g2, 0, none⟩) cap2).es.flatMap evR ++ sp2) 55), (b1, aO #[iV p.ll, iV p.lh, iV p.ul, iV p.uh, .slice p.ea p.es.length p.ec] 26)]⟩) (acc := [(iV (Int.tmod (elI xs i) 21), iV (elI xs i % 21)), (iV (IntKind.i64.wrap (elI xs i)), iV (elI xs i)), (.bool true, .bool true), (.bool (decide ((i : Int) < 10)), .bool true)]) (by kernel_rfl) (by kernel_rfl) ⟨(rm 21 (by omega)), (wr (by omega) (by omega)), rfl, (bo hd8), trivial⟩ ?_
                    refine run_new (aO #[iV (elI xs i % 21)] 3) (fun b6 => sV b6 1 1) (some 199) (fun _ => by kernel_rfl) (fun b6 hb6 => ?_)
                    refine run_app_none (t := 38) (ty := 38) (e := 3) (n := 1) (z := (iV 0)) (by kernel_rfl) (by kernel_rfl) (by kernel_rfl) rfl (by kernel_rfl) inR inR_len (some 200) 1 1 ([(elI xs i % 21)] : List Int) ⟨b6, 0, none⟩ (by first | rfl | omega | (simp; done) | (simp; omega)) (by omega) (by kernel_rfl) (fun w1 k1 h1 jq uq hu => by rw [add_none, Nat.zero_add]; exact cells_of_heap (h1 (b6, aO #[iV (elI xs i % 21)] 3) (List.mem_of_getElem? (i := 0) (by kernel_rfl))) jq uq hu) (by omega) (fun b7 cap7 sp7 hb7 hqb7 hmb7 hlb7 => ?_)
                    refine run_auto [(201, iV ((i + 1 : Nat) : Int))] 7 [] [] [1, 4, 8, 9, 15, 19, 26, 186, 187, 188] [0, 2, 3, 4] (st' := ⟨[(1, .slice aa L.length lc), (4, pA b1), (8, .bool false), (9, pA b3), (15, iV m), (19, iV (T p.es.length).2), (26, sV b7 1 cap7), (186, .slice sa xs.length sk), (187, iV (xs.length : Int)), (188, iV ((i + 1 : Nat) : Int))], [(b7, cO ((([(elI xs i % 21)] : List Int)).flatMap inR ++ sp7) 3), (b3, aO #[iV p.ll, iV p.lh, iV p.ul, iV p.uh, sV g2 p.es.length cap2] 26), (g2, cO ((trB p L (some ⟨g2, 0, none⟩) cap2).es.flatMap evR ++ sp2) 55), (b1, aO #[iV p.ll, iV p.lh, iV p.ul, iV p.uh, .slice p.ea p.es.length p.ec] 26)]⟩) (acc := [(iV (IntKind.i64.wrap ((i : Int) + 1)), iV ((i + 1 : Nat) : Int))]) (by kernel_rfl) (by kernel_rfl) ⟨(wr (by omega) (by omega)), trivial⟩ ?_
                    have hst := Dl_yes hil (show i < 10 by omega)
                    have e0 : Dl xs i = [] := List.eq_nil_of_length_eq_zero (by rw [hz2, hz3])
                    rw [e0, List.nil_append] at hst
                    have hj := hJ1 ((i + 1, 1, some (b7, cap7, sp7))) (⟨by dsimp only; omega, by rw [hst]; rfl, by dsimp only; omega, hqb7, hmb7, by rw [hst]; exact hlb7, hb7⟩) (by dsimp only; omega)
                    dsimp only at hj
                    rw [hst] at hj
                    exact run_round (by kernel_rfl) hj
              · skip
                obtain ⟨hz1, hz2, hz3⟩ := hI1
                dsimp only at hz1 hz2 hz3
                have hzl := Dl_len xs i hz1
                have hxl2 : xs.length ≤ 2 ^ 63 - 1 := by have h := hxl; simp only [maxLen] at h; exact h
                obtain ⟨hz4, hz5, hz6, hz7, hz8⟩ := hz3
                cases hd7 : (decide ((i : Int) < (xs.length : Int))) with
                | false =>
                  have hp7 := of_decide_eq_false hd7
                  have hD : Dl xs i = D := by rw [show i = xs.length by omega]; exact hDe
                  rw [hD] at hz2
                  have hDk := hz2
                  dsimp only
                  rw [hD]
                  rw [hD] at hz7
                  refine run_auto [(189, .bool false)] 12 [false] [1] [1, 4, 8, 9, 15, 19, 26, 203, 204, 205] [0, 1, 2, 3] (st' := ⟨[(1, .slice aa L.length lc), (4, pA b1), (8, .bool false), (9, pA b3), (15, iV m), (19, iV (T p.es.length).2), (26, sV gd kd cd), (203, .agg #[iV p.ll, iV p.lh, iV p.ul, iV p.uh, sV g2 p.es.length cap2]), (204, iV m), (205, sV gd kd cd)], [(gd, cO ((D).flatMap inR ++ sd) 3), (b3, aO #[iV p.ll, iV p.lh, iV p.ul, iV p.uh, sV g2 p.es.length cap2] 26), (g2, cO ((trB p L (some ⟨g2, 0, none⟩) cap2).es.flatMap evR ++ sp2) 55), (b1, aO #[iV p.ll, iV p.lh, iV p.ul, iV p.uh, .slice p.ea p.es.length p.ec] 26)]⟩) (acc := [(pA b3, pA b3), (.bool false, .bool false), (.bool (decide ((i : Int) < (xs.length : Int))), .bool false)]) (by kernel_rfl) (by kernel_rfl) ⟨rfl, rfl, (bo hd7), trivial⟩ ?_
                  refine run_ret1 24 #[.agg #[iV p.ll, iV p.lh, iV p.ul, iV p.uh, sV g2 p.es.length cap2], iV m, sV gd kd cd] (some 206) (.tuple #[iV dv, iV de]) (by kernel_rfl) (fun w1 k1 h1 => (by have h := Day_any (trB p L (some ⟨g2, 0, none⟩) cap2) m D (some ⟨gd, 0, none⟩) cd w1 ⟨Evs.of_flat (sp := sp2) (h1 (g2, cO ((trB p L (some ⟨g2, 0, none⟩) cap2).es.flatMap evR ++ sp2) 55) (List.mem_of_getElem? (i := 2) (by kernel_rfl))), by show (trB p L (some ⟨g2, 0, none⟩) cap2).es.length ≤ maxLen; rw [trB_len]; exact hp.ln⟩ (Ins.of_flat (L := D) (sp := sd) (h1 (gd, cO ((D).flatMap inR ++ sd) 3) (List.mem_of_getElem? (i := 0) (by kernel_rfl)))) (by omega); rw [show (trB p L (some ⟨g2, 0, none⟩) cap2).es.length = p.es.length from trB_len _ _ _ _] at h; rw [show dayR (trB p L (some ⟨g2, 0, none⟩) cap2) m D = dayR q m D from by rw [hq], hdv, hde, hDk] at h; exact h)) ?_
                  cases hd8 : (de != 0) with
                  | false =>
                    have hp8 : de = 0 := by simpa using hd8
                    cases hd9 : (de == 0) with
                    | false =>
                      have hp9 : ¬ de = 0 := by simpa using hd9
                      exfalso
                      omega
                    | true =>
                      have hp9 : de = 0 := by simpa using hd9
                      cases hd10 : (decide (dv < 0)) with
                      | false =>
                        have hp10 := of_decide_eq_false hd10
                        cases hd11 : (decide ((kd : Int) ≤ dv)) with
                        | false =>
                          have hp11 := of_decide_eq_false hd11
                          refine run_auto [(210, .bool false), (221, .bool true), (224, .bool false), (229, .bool false)] 40 [false] [] [4, 8, 9, 15, 19, 26, 29, 30, 233, 234] [0, 1, 2, 3] (st' := ⟨[(4, pA b1), (8, .bool false), (9, pA b3), (15, iV m), (19, iV (T p.es.length).2), (26, sV gd kd cd), (29, iV dv), (30, iV de), (233, iV (T p.es.length).2), (234, .slice aa L.length lc)], [(gd, cO ((D).flatMap inR ++ sd) 3), (b3, aO #[iV p.ll, iV p.lh, iV p.ul, iV p.uh, sV g2 p.es.length cap2] 26), (g2, cO ((trB p L (some ⟨g2, 0, none⟩) cap2).es.flatMap evR ++ sp2) 55), (b1, aO #[iV p.ll, iV p.lh, iV p.ul, iV p.uh, .slice p.ea p.es.length p.ec] 26)]⟩) (acc := [(.bool false, .bool false), (.bool (decide ((kd : Int) ≤ dv)), .bool false), (.bool (decide (dv < 0)), .bool false), (.bool (de == 0), .bool true), (.bool (de != 0), .bool false)]) (by kernel_rfl) (by kernel_rfl) ⟨rfl, (bo hd11), (bo hd10), (bo hd9), (bo hd8), trivial⟩ ?_
                          refine run_nwl 31 #[.slice aa L.length lc] (some 235) (α := Nat × Nat) (fun x => .func (.func 88) #[] #[.pointer (some ⟨(x.1), 0, none⟩), .pointer (some ⟨(x.2), 0, none⟩)]) (fun x => [((x.1), aO #[iV 0] 3), ((x.2), aO #[.slice aa L.length lc] 43)]) (fun x => True) (by kernel_rfl) (fun x p hp => by simp only [List.mem_cons, List.not_mem_nil, or_false] at hp; rcases hp with rfl | rfl <;> rfl) (fun w1 k1 h1 => draws_any L aa lc w1) (fun x hI6 hn6 => ?_)
                          obtain ⟨a6, b6⟩ := x
                          dsimp only at hI6 hn6
                          have ha6 := hn6 _ (List.mem_of_getElem? (i := 0) rfl)
                          have hb6 := hn6 _ (List.mem_of_getElem? (i := 1) rfl)
                          refine run_auto [] 11 [] [] [4, 8, 9, 15, 19, 29, 30, 31, 32, 236, 237, 238] [0, 1, 2, 3, 4, 5] (st' := ⟨[(4, pA b1), (8, .bool false), (9, pA b3), (15, iV m), (19, iV (T p.es.length).2), (29, iV dv), (30, iV de), (31, iV (T p.es.length).2), (32, .func (.func 88) #[] #[pA a6, pA b6]), (236, sV gd kd cd), (237, iV (kd : Int)), (238, iV 0)], [(a6, aO #[iV 0] 3), (b6, aO #[.slice aa L.length lc] 43), (gd, cO ((D).flatMap inR ++ sd) 3), (b3, aO #[iV p.ll, iV p.lh, iV p.ul, iV p.uh, sV g2 p.es.length cap2] 26), (g2, cO ((trB p L (some ⟨g2, 0, none⟩) cap2).es.flatMap evR ++ sp2) 55), (b1, aO #[iV p.ll, iV p.lh, iV p.ul, iV p.uh, .slice p.ea p.es.length p.ec] 26)]⟩) (acc := []) (by kernel_rfl) (by kernel_rfl) trivial ?_
                          refine run_auto [] 0 [] [] [4, 8, 9, 15, 19, 29, 30, 31, 32, 236, 237, 238] [0, 1, 2, 3, 4, 5] (st' := ⟨[(4, pA b1), (8, .bool false), (9, pA b3), (15, iV m), (19, iV (T p.es.length).2), (29, iV dv), (30, iV de), (31, iV (T p.es.length).2), (32, .func (.func 88) #[] #[pA a6, pA b6]), (236, sV gd kd cd), (237, iV (kd : Int)), (238, iV 0)], [(a6, aO #[iV 0] 3), (b6, aO #[.slice aa L.length lc] 43), (gd, cO ((D).flatMap inR ++ sd) 3), (b3, aO #[iV p.ll, iV p.lh, iV p.ul, iV p.uh, sV g2 p.es.length cap2] 26), (g2, cO ((trB p L (some ⟨g2, 0, none⟩) cap2).es.flatMap evR ++ sp2) 55), (b1, aO #[iV p.ll, iV p.lh, iV p.ul, iV p.uh, .slice p.ea p.es.length p.ec] 26)]⟩) (acc := []) (by kernel_rfl) (by kernel_rfl) trivial ?_
                          refine run_loop (S := fun (c : Nat) => ⟨[(4, pA b1), (8, .bool false), (9, pA b3), (15, iV m), (19, iV (T p.es.length).2), (29, iV dv), (30, iV de), (31, iV (N c).2), (32, .func (.func 88) #[] #[pA a6, pA b6]), (236, sV gd kd cd), (237, iV (kd : Int)), (238, iV (c : Int))], [(a6, aO #[iV ((N c).1 : Int)] 3), (b6, aO #[.slice aa L.length lc] 43), (gd, cO ((D).flatMap inR ++ sd) 3), (b3, aO #[iV p.ll, iV p.lh, iV p.ul, iV p.uh, sV g2 p.es.length cap2] 26), (g2, cO ((trB p L (some ⟨g2, 0, none⟩) cap2).es.flatMap evR ++ sp2) 55), (b1, aO #[iV p.ll, iV p.lh, iV p.ul, iV p.uh, .slice p.ea p.es.length p.ec] 26)]⟩) (fun c => c ≤ kd) (fun c => kd - c) (0) (by kernel_rfl) (Nat.zero_le _) (by rw [← hN]; kernel_rfl) (fun c hI2 J2 hJ2 => ?_)
                          have hNc := hNb c (by omega)
                          have hnb := now_bd hqF hD10 hDv (i := c) (by omega)
                          cases hd12 : (decide ((c : Int) < (kd : Int))) with
                          | false =>
                            have hp12 := of_decide_eq_false hd12
                            refine run_auto [(239, .bool false)] 8 [false] [] [8, 9, 19] [3, 4] (st' := ⟨[(8, .bool false), (9, pA b3), (19, iV (T p.es.length).2)], [(b3, aO #[iV p.ll, iV p.lh, iV p.ul, iV p.uh, sV g2 p.es.length cap2] 26), (g2, cO ((trB p L (some ⟨g2, 0, none⟩) cap2).es.flatMap evR ++ sp2) 55)]⟩) (acc := [(.bool false, .bool false), (.bool (decide ((c : Int) < (kd : Int))), .bool false)]) (by kernel_rfl) (by kernel_rfl) ⟨rfl, (bo hd12), trivial⟩ ?_
                            refine drawW 10 [{ val := fun _ => .agg #[iV p.ll, iV p.lh, iV p.ul, iV p.uh, sV g2 p.es.length cap2], slots := [9], reads := [0] },
                                                          { val := fun _ => iV (T p.es.length).2, slots := [19] },
                                                          { val := fun _ => iV (T p.es.length).2, slots := [19] },
                                                          { val := fun _ => .agg #[iV (T p.es.length).2, iV (T p.es.length).2], slots := [268, 269] },
                                                          { val := fun _ => .tuple #[iV gr, iV 0], slots := [267, 270], reads := [1] },
                                                          { val := fun _ => .tuple #[iV gr, iV 0], slots := [271] },
                                                          { val := fun _ => iV gr, slots := [266] },
                                                          { val := fun _ => iV 0, slots := [266] },
                                                          { val := fun _ => iV gr, slots := [272] },
                                                          { val := fun _ => iV 0, slots := [273] }] [[], [], [], [1, 2], [0, 1, 2, 3], [0, 1, 2, 3, 4], [0, 1, 2, 3, 4, 5], [0, 1, 2, 3, 4, 5], [0, 1, 2, 3, 4, 5, 6], [0, 1, 2, 3, 4, 5, 6, 7, 8]] (by kernel_rfl) (by kernel_rfl) (by kernel_rfl) (by kernel_rfl) [8, 35, 36] [] (by kernel_rfl)
                                                          ⟨⟨⟨⟨⟨⟨⟨⟨⟨⟨trivial,
                                                          tri_quietW (fun β => []) [0] [0] (fun β => [(pA b3, pA b3)]) (by kernel_rfl) (fun β extra => by kernel_rfl) (by kernel_rfl) (fun β => ⟨rfl, trivial⟩)⟩,
                                                          tri_quietW (fun β => []) [] [] (fun β => []) (by kernel_rfl) (fun β extra => by kernel_rfl) (by kernel_rfl) (fun β => trivial)⟩,
                                                          tri_quietW (fun β => []) [] [] (fun β => []) (by kernel_rfl) (fun β extra => by kernel_rfl) (by kernel_rfl) (fun β => trivial)⟩,
                                                          tri_callVW (fun β => .agg #[iV (T p.es.length).2, iV (T p.es.length).2]) (fun β => by kernel_rfl) 32 (fun β => #[iV (T p.es.length).2, iV (T p.es.length).2]) (by kernel_rfl) (fun β extra => by kernel_rfl) (fun β => by kernel_rfl) (fun β w1 k1 h1 => span_any (T p.es.length).2 (T p.es.length).2 w1)⟩,
                                                          tri_callVW (fun β => .tuple #[iV gr, iV 0]) (fun β => by kernel_rfl) 20 (fun β => #[.agg #[iV p.ll, iV p.lh, iV p.ul, iV p.uh, sV g2 p.es.length cap2], .agg #[iV (T p.es.length).2, iV (T p.es.length).2]]) (by kernel_rfl) (fun β extra => by kernel_rfl) (fun β => by kernel_rfl) (fun β w1 k1 h1 => (by have h := Fits_any (trB p L (some ⟨g2, 0, none⟩) cap2) ((T p.es.length).2, (T p.es.length).2) w1 ⟨Evs.of_flat (sp := sp2) (h1 (g2, cO ((trB p L (some ⟨g2, 0, none⟩) cap2).es.flatMap evR ++ sp2) 55) (List.mem_of_getElem? (i := 0) (by kernel_rfl))), by show (trB p L (some ⟨g2, 0, none⟩) cap2).es.length ≤ maxLen; rw [trB_len]; exact hp.ln⟩; rw [show (trB p L (some ⟨g2, 0, none⟩) cap2).es.length = p.es.length from trB_len _ _ _ _] at h; rw [show fitsR (trB p L (some ⟨g2, 0, none⟩) cap2) ((T p.es.length).2, (T p.es.length).2) = .inr gr from by rw [hq]; exact fitsR_ok hqF hqc hs1 (by rw [hql]; exact hgr)] at h; exact h))⟩,
                                                          tri_quietW (fun β => []) [] [] (fun β => []) (by kernel_rfl) (fun β extra => by kernel_rfl) (by kernel_rfl) (fun β => trivial)⟩,
                                                          tri_quietW (fun β => []) [] [] (fun β => []) (by kernel_rfl) (fun β extra => by kernel_rfl) (by kernel_rfl) (fun β => trivial)⟩,
                                                          tri_quietW (fun β => []) [] [] (fun β => []) (by kernel_rfl) (fun β extra => by kernel_rfl) (by kernel_rfl) (fun β => trivial)⟩,
                                                          tri_quietW (fun β => []) [] [] (fun β => []) (by kernel_rfl) (fun β extra => by kernel_rfl) (by kernel_rfl) (fun β => trivial)⟩,
                                                          tri_quietW (fun β => []) [] [] (fun β => []) (by kernel_rfl) (fun β extra => by kernel_rfl) (by kernel_rfl) (fun β => trivial)⟩
                                                          (fun β => ⟨[(8, .bool false), (35, iV gr), (36, iV 0)], []⟩) (fun β => by kernel_rfl) (fun β7 => ?_)
                            cases hd13 : (gr != 0) with
                            | false =>
                              have hp13 : gr = 0 := by simpa using hd13
                              exfalso
                              omega
                            | true =>
                              have hp13 : ¬ gr = 0 := by simpa using hd13
                              refine run_auto [(275, .bool true), (278, .bool true)] 9 [] [] [8, 280] [] (st' := ⟨[(8, .bool false), (280, .bool true)], []⟩) (acc := [(.bool (gr != 0), .bool true), (.bool true, .bool true)]) (by kernel_rfl) (by kernel_rfl) ⟨(bo hd13), rfl, trivial⟩ ?_
                              refine run_ret1 13 #[] (some 281) (.bool true) (by kernel_rfl) (fun w1 k1 h1 => awake_any w1) ?_
                              refine run_auto [] 3 [] [] [8] [] (st' := ⟨[(8, .bool true)], []⟩) (acc := []) (by kernel_rfl) (by kernel_rfl) trivial ?_
                              refine run_end (fn := f5) rfl (Nat.le_refl _) (by kernel_rfl) [] [.bool true] (e := []) (by kernel_rfl) trivial (fun w1 k1 h1 => ?_)
                              exact ⟨rfl, k1.keeps (fun _ h => h)⟩
                          | true =>
                            have hp12 := of_decide_eq_true hd12
                            have hck : c < kd := by omega
                            have hcu := use_of hDv (i := c) (by omega)
                            refine run_auto [(239, .bool true)] 12 [true] [] [4, 8, 9, 15, 19, 29, 30, 31, 32, 236, 237, 238, 240] [0, 1, 2, 3, 4, 5] (st' := ⟨[(4, pA b1), (8, .bool false), (9, pA b3), (15, iV m), (19, iV (T p.es.length).2), (29, iV dv), (30, iV de), (31, iV (N c).2), (32, .func (.func 88) #[] #[pA a6, pA b6]), (236, sV gd kd cd), (237, iV (kd : Int)), (238, iV (c : Int)), (240, iV (c : Int))], [(a6, aO #[iV ((N c).1 : Int)] 3), (b6, aO #[.slice aa L.length lc] 43), (gd, cO ((D).flatMap inR ++ sd) 3), (b3, aO #[iV p.ll, iV p.lh, iV p.ul, iV p.uh, sV g2 p.es.length cap2] 26), (g2, cO ((trB p L (some ⟨g2, 0, none⟩) cap2).es.flatMap evR ++ sp2) 55), (b1, aO #[iV p.ll, iV p.lh, iV p.ul, iV p.uh, .slice p.ea p.es.length p.ec] 26)]⟩) (acc := [(.bool true, .bool true), (.bool (decide ((c : Int) < (kd : Int))), .bool true)]) (by kernel_rfl) (by kernel_rfl) ⟨rfl, (bo hd12), trivial⟩ ?_
                            refine run_v (Instr.indexAt 38 (sV gd kd cd) (iV (c : Int)) >>= fun v => pure (Next.value v)) (some 241) (.pointer (some ⟨gd, c, none⟩)) (by kernel_rfl) (fun w1 k1 h1 => idx_off (e := 3) (n := 1) (by kernel_rfl) (by kernel_rfl) gd (0) kd cd .i64 c (by omega) (c) (by omega) w1) ?_
                            refine run_v (Instr.loadAt 3 (.pointer (some ⟨gd, c, none⟩)) >>= fun v => pure (Next.value v)) (some 242) (iV (elI D c)) (by kernel_rfl) (fun w1 k1 h1 => load_own (e := 3) (fr := (0, 0)) (c := (D).flatMap inR ++ sd) h1 (List.mem_of_getElem? (i := 2) (by kernel_rfl)) (flat_loadF (c := inR) (n := 1) inR_len (by kernel_rfl) (i := c) (k := 0) (by first | omega | (simp; omega)) (by rw [inR_at (by first | omega | (simp; omega))]; rfl) (by omega))) ?_
                            refine run_auto [] 10 [] [] [4, 8, 9, 15, 19, 29, 30, 31, 32, 236, 237, 238, 33, 243, 244] [0, 1, 2, 3, 4, 5] (st' := ⟨[(4, pA b1), (8, .bool false), (9, pA b3), (15, iV m), (19, iV (T p.es.length).2), (29, iV dv), (30, iV de), (31, iV (N c).2), (32, .func (.func 88) #[] #[pA a6, pA b6]), (236, sV gd kd cd), (237, iV (kd : Int)), (238, iV (c : Int)), (33, iV (c : Int)), (243, iV (elI D c)), (244, iV 0)], [(a6, aO #[iV ((N c).1 : Int)] 3), (b6, aO #[.slice aa L.length lc] 43), (gd, cO ((D).flatMap inR ++ sd) 3), (b3, aO #[iV p.ll, iV p.lh, iV p.ul, iV p.uh, sV g2 p.es.length cap2] 26), (g2, cO ((trB p L (some ⟨g2, 0, none⟩) cap2).es.flatMap evR ++ sp2) 55), (b1, aO #[iV p.ll, iV p.lh, iV p.ul, iV p.uh, .slice p.ea p.es.length p.ec] 26)]⟩) (acc := []) (by kernel_rfl) (by kernel_rfl) trivial ?_
                            refine run_auto [] 0 [] [] [4, 8, 9, 15, 19, 29, 30, 31, 32, 236, 237, 238, 33, 243, 244] [0, 1, 2, 3, 4, 5] (st' := ⟨[(4, pA b1), (8, .bool false), (9, pA b3), (15, iV m), (19, iV (T p.es.length).2), (29, iV dv), (30, iV de), (31, iV (N c).2), (32, .func (.func 88) #[] #[pA a6, pA b6]), (236, sV gd kd cd), (237, iV (kd : Int)), (238, iV (c : Int)), (33, iV (c : Int)), (243, iV (elI D c)), (244, iV 0)], [(a6, aO #[iV ((N c).1 : Int)] 3), (b6, aO #[.slice aa L.length lc] 43), (gd, cO ((D).flatMap inR ++ sd) 3), (b3, aO #[iV p.ll, iV p.lh, iV p.ul, iV p.uh, sV g2 p.es.length cap2] 26), (g2, cO ((trB p L (some ⟨g2, 0, none⟩) cap2).es.flatMap evR ++ sp2) 55), (b1, aO #[iV p.ll, iV p.lh, iV p.ul, iV p.uh, .slice p.ea p.es.length p.ec] 26)]⟩) (acc := []) (by kernel_rfl) (by kernel_rfl) trivial ?_
                            refine run_loop (S := fun (t : Nat) => ⟨[(4, pA b1), (8, .bool false), (9, pA b3), (15, iV m), (19, iV (T p.es.length).2), (29, iV dv), (30, iV de), (31, iV (usD L (p.ul, p.uh) (N c).1 (N c).2 t)), (32, .func (.func 88) #[] #[pA a6, pA b6]), (236, sV gd kd cd), (237, iV (kd : Int)), (238, iV (c : Int)), (33, iV (c : Int)), (243, iV (elI D c)), (244, iV (t : Int))], [(a6, aO #[iV (((N c).1 + t : Nat) : Int)] 3), (b6, aO #[.slice aa L.length lc] 43), (gd, cO ((D).flatMap inR ++ sd) 3), (b3, aO #[iV p.ll, iV p.lh, iV p.ul, iV p.uh, sV g2 p.es.length cap2] 26), (g2, cO ((trB p L (some ⟨g2, 0, none⟩) cap2).es.flatMap evR ++ sp2) 55), (b1, aO #[iV p.ll, iV p.lh, iV p.ul, iV p.uh, .slice p.ea p.es.length p.ec] 26)]⟩) (fun t => (t : Int) ≤ elI D c) (fun t => 20 - t) (0) (by kernel_rfl) (by omega) (by simp [usD]) (fun t hI3 J3 hJ3 => ?_)
                            have hub := usD_bd L (u := (p.ul, p.uh)) hu0.2.1 (N c).1 (N c).2 t
                            have ht1 : 0 ≤ (t : Int) * p.ul := Int.mul_nonneg (by omega) hu0.1
                            have ht2 : (t : Int) * p.uh ≤ 20 * 3 := Int.mul_le_mul (by omega) hu0.2.2 (by omega) (by omega)
                            dsimp only at hub
                            have hdi := dw_in L ((N c).1 + t) (s := (p.ul, p.uh)) hu0.2.1
                            dsimp only at hdi
                            cases hd13 : (decide ((t : Int) < (elI D c))) with
                            | false =>
                              have hp13 := of_decide_eq_false hd13
                              have htn : (elI D c).toNat = t := by omega
                              have hst : N (c + 1) = ((N c).1 + (elI D c).toNat, usD L (p.ul, p.uh) (N c).1 (N c).2 (elI D c).toNat) := by rw [← hN]; rfl
                              rw [htn] at hst
                              have hnk := hNb (c + 1) (by omega)
                              rw [hst] at hnk
                              dsimp only at hnk
                              cases hd14 : (decide ((usD L (p.ul, p.uh) (N c).1 (N c).2 t) < m)) with
                              | false =>
                                have hp14 := of_decide_eq_false hd14
                                refine run_auto [(245, .bool false), (255, .bool false), (265, iV ((c + 1 : Nat) : Int))] 29 [false, false] [] [4, 8, 9, 15, 19, 29, 30, 31, 32, 236, 237, 238] [0, 1, 2, 3, 4, 5] (st' := ⟨[(4, pA b1), (8, .bool false), (9, pA b3), (15, iV m), (19, iV (T p.es.length).2), (29, iV dv), (30, iV de), (31, iV (usD L (p.ul, p.uh) (N c).1 (N c).2 t)), (32, .func (.func 88) #[] #[pA a6, pA b6]), (236, sV gd kd cd), (237, iV (kd : Int)), (238, iV ((c + 1 : Nat) : Int))], [(a6, aO #[iV (((N c).1 + t : Nat) : Int)] 3), (b6, aO #[.slice aa L.length lc] 43), (gd, cO ((D).flatMap inR ++ sd) 3), (b3, aO #[iV p.ll, iV p.lh, iV p.ul, iV p.uh, sV g2 p.es.length cap2] 26), (g2, cO ((trB p L (some ⟨g2, 0, none⟩) cap2).es.flatMap evR ++ sp2) 55), (b1, aO #[iV p.ll, iV p.lh, iV p.ul, iV p.uh, .slice p.ea p.es.length p.ec] 26)]⟩) (acc := [(iV (IntKind.i64.wrap ((c : Int) + 1)), iV ((c + 1 : Nat) : Int)), (.bool false, .bool false), (.bool (decide ((usD L (p.ul, p.uh) (N c).1 (N c).2 t) < m)), .bool false), (.bool false, .bool false), (.bool (decide ((t : Int) < (elI D c))), .bool false)]) (by kernel_rfl) (by kernel_rfl) ⟨(wr (by omega) (by omega)), rfl, (bo hd14), rfl, (bo hd13), trivial⟩ ?_
                                have hj := hJ2 (c + 1) (by omega) (by omega)
                                rw [hst] at hj
                                exact run_round (by kernel_rfl) hj
                              | true =>
                                have hp14 := of_decide_eq_true hd14
                                have hle := hY.le (j := c) (by omega) (by omega)
                                cases hd15 : (decide ((c : Int) < dv)) with
                                | false =>
                                  have hp15 := of_decide_eq_false hd15
                                  refine run_auto [(245, .bool false), (255, .bool true), (258, .bool false), (262, .bool false), (265, iV ((c + 1 : Nat) : Int))] 29 [false, false] [] [4, 8, 9, 15, 19, 29, 30, 31, 32, 236, 237, 238] [0, 1, 2, 3, 4, 5] (st' := ⟨[(4, pA b1), (8, .bool false), (9, pA b3), (15, iV m), (19, iV (T p.es.length).2), (29, iV dv), (30, iV de), (31, iV (usD L (p.ul, p.uh) (N c).1 (N c).2 t)), (32, .func (.func 88) #[] #[pA a6, pA b6]), (236, sV gd kd cd), (237, iV (kd : Int)), (238, iV ((c + 1 : Nat) : Int))], [(a6, aO #[iV (((N c).1 + t : Nat) : Int)] 3), (b6, aO #[.slice aa L.length lc] 43), (gd, cO ((D).flatMap inR ++ sd) 3), (b3, aO #[iV p.ll, iV p.lh, iV p.ul, iV p.uh, sV g2 p.es.length cap2] 26), (g2, cO ((trB p L (some ⟨g2, 0, none⟩) cap2).es.flatMap evR ++ sp2) 55), (b1, aO #[iV p.ll, iV p.lh, iV p.ul, iV p.uh, .slice p.ea p.es.length p.ec] 26)]⟩) (acc := [(iV (IntKind.i64.wrap ((c : Int) + 1)), iV ((c + 1 : Nat) : Int)), (.bool false, .bool false), (.bool (decide ((c : Int) < dv)), .bool false), (.bool (de != 0), .bool false), (.bool (decide ((usD L (p.ul, p.uh) (N c).1 (N c).2 t) < m)), .bool true), (.bool false, .bool false), (.bool (decide ((t : Int) < (elI D c))), .bool false)]) (by kernel_rfl) (by kernel_rfl) ⟨(wr (by omega) (by omega)), rfl, (bo hd15), (bo hd8), (bo hd14), rfl, (bo hd13), trivial⟩ ?_
                                  have hj := hJ2 (c + 1) (by omega) (by omega)
                                  rw [hst] at hj
                                  exact run_round (by kernel_rfl) hj
                                | true =>
                                  have hp15 := of_decide_eq_true hd15
                                  exfalso
                                  omega
                            | true =>
                              have hp13 := of_decide_eq_true hd13
                              refine run_auto [(245, .bool true)] 14 [true] [5] [4, 8, 9, 15, 19, 29, 30, 31, 32, 236, 237, 238, 33, 243, 244, 246, 247, 249] [0, 1, 2, 3, 4, 5] (st' := ⟨[(4, pA b1), (8, .bool false), (9, pA b3), (15, iV m), (19, iV (T p.es.length).2), (29, iV dv), (30, iV de), (31, iV (usD L (p.ul, p.uh) (N c).1 (N c).2 t)), (32, .func (.func 88) #[] #[pA a6, pA b6]), (236, sV gd kd cd), (237, iV (kd : Int)), (238, iV (c : Int)), (33, iV (c : Int)), (243, iV (elI D c)), (244, iV (t : Int)), (246, iV (usD L (p.ul, p.uh) (N c).1 (N c).2 t)), (247, .func (.func 88) #[] #[pA a6, pA b6]), (249, .agg #[iV p.ul, iV p.uh])], [(a6, aO #[iV (((N c).1 + t : Nat) : Int)] 3), (b6, aO #[.slice aa L.length lc] 43), (gd, cO ((D).flatMap inR ++ sd) 3), (b3, aO #[iV p.ll, iV p.lh, iV p.ul, iV p.uh, sV g2 p.es.length cap2] 26), (g2, cO ((trB p L (some ⟨g2, 0, none⟩) cap2).es.flatMap evR ++ sp2) 55), (b1, aO #[iV p.ll, iV p.lh, iV p.ul, iV p.uh, .slice p.ea p.es.length p.ec] 26)]⟩) (acc := [(pA b1, pA b1), (.bool true, .bool true), (.bool (decide ((t : Int) < (elI D c))), .bool true)]) (by kernel_rfl) (by kernel_rfl) ⟨rfl, rfl, (bo hd13), trivial⟩ ?_
                              refine run_wr 88 #[.agg #[iV p.ul, iV p.uh], pA a6, pA b6] (some 250) (iV (dwS L ((N c).1 + t : Nat) (p.ul, p.uh))) 0 a6 (aO #[iV (((N c).1 + t : Nat) : Int)] 3) (aO #[iV ((((N c).1 + t : Nat) + 1 : Nat) : Int)] 3) (by kernel_rfl) (by kernel_rfl) (by kernel_rfl) (fun w1 k1 h1 => draw_any a6 b6 ((N c).1 + t : Nat) lc p.ul p.uh L aa (by omega) (by omega) (by omega) (by omega) w1 (h1 (a6, aO #[iV (((N c).1 + t : Nat) : Int)] 3) (List.mem_of_getElem? (i := 0) (by kernel_rfl))) (h1 (b6, aO #[.slice aa L.length lc] 43) (List.mem_of_getElem? (i := 1) (by kernel_rfl))) (hU.us (k1.keeps (fun _ h => h)) ha6) hlm) ?_
                              refine run_auto [(251, iV ((usD L (p.ul, p.uh) (N c).1 (N c).2 t) - (dwS L ((N c).1 + t : Nat) (p.ul, p.uh)))), (252, iV ((t + 1 : Nat) : Int))] 8 [] [] [4, 8, 9, 15, 19, 29, 30, 31, 32, 236, 237, 238, 33, 243, 244] [0, 1, 2, 3, 4, 5] (st' := ⟨[(4, pA b1), (8, .bool false), (9, pA b3), (15, iV m), (19, iV (T p.es.length).2), (29, iV dv), (30, iV de), (31, iV ((usD L (p.ul, p.uh) (N c).1 (N c).2 t) - (dwS L ((N c).1 + t : Nat) (p.ul, p.uh)))), (32, .func (.func 88) #[] #[pA a6, pA b6]), (236, sV gd kd cd), (237, iV (kd : Int)), (238, iV (c : Int)), (33, iV (c : Int)), (243, iV (elI D c)), (244, iV ((t + 1 : Nat) : Int))], [(a6, aO #[iV ((((N c).1 + t : Nat) + 1 : Nat) : Int)] 3), (b6, aO #[.slice aa L.length lc] 43), (gd, cO ((D).flatMap inR ++ sd) 3), (b3, aO #[iV p.ll, iV p.lh, iV p.ul, iV p.uh, sV g2 p.es.length cap2] 26), (g2, cO ((trB p L (some ⟨g2, 0, none⟩) cap2).es.flatMap evR ++ sp2) 55), (b1, aO #[iV p.ll, iV p.lh, iV p.ul, iV p.uh, .slice p.ea p.es.length p.ec] 26)]⟩) (acc := [(iV (IntKind.i64.wrap ((t : Int) + 1)), iV ((t + 1 : Nat) : Int)), (iV (IntKind.i64.wrap ((usD L (p.ul, p.uh) (N c).1 (N c).2 t) - (dwS L ((N c).1 + t : Nat) (p.ul, p.uh)))), iV ((usD L (p.ul, p.uh) (N c).1 (N c).2 t) - (dwS L ((N c).1 + t : Nat) (p.ul, p.uh))))]) (by kernel_rfl) (by kernel_rfl) ⟨(wr (by omega) (by omega)), (wr (by omega) (by omega)), trivial⟩ ?_
                              exact run_round (by kernel_rfl) (hJ3 (t + 1) (by omega) (by omega))
                        | true =>
                          have hp11 := of_decide_eq_true hd11
                          exfalso
                          omega
                      | true =>
                        have hp10 := of_decide_eq_true hd10
                        exfalso
                        omega
                  | true =>
                    have hp8 : ¬ de = 0 := by simpa using hd8
                    cases hd9 : (de != 4) with
                    | false =>
                      have hp9 : de = 4 := by simpa using hd9
                      cases hd10 : (dv != 0) with
                      | false =>
                        have hp10 : dv = 0 := by simpa using hd10
                        cases hd11 : (de == 0) with
                        | false =>
                          have hp11 : ¬ de = 0 := by simpa using hd11
                          refine run_auto [(210, .bool true), (213, .bool false), (216, .bool false), (221, .bool false)] 40 [false] [] [4, 8, 9, 15, 19, 26, 29, 30, 233, 234] [0, 1, 2, 3] (st' := ⟨[(4, pA b1), (8, .bool false), (9, pA b3), (15, iV m), (19, iV (T p.es.length).2), (26, sV gd kd cd), (29, iV dv), (30, iV de), (233, iV (T p.es.length).2), (234, .slice aa L.length lc)], [(gd, cO ((D).flatMap inR ++ sd) 3), (b3, aO #[iV p.ll, iV p.lh, iV p.ul, iV p.uh, sV g2 p.es.length cap2] 26), (g2, cO ((trB p L (some ⟨g2, 0, none⟩) cap2).es.flatMap evR ++ sp2) 55), (b1, aO #[iV p.ll, iV p.lh, iV p.ul, iV p.uh, .slice p.ea p.es.length p.ec] 26)]⟩) (acc := [(.bool false, .bool false), (.bool (de == 0), .bool false), (.bool (dv != 0), .bool false), (.bool (de != 4), .bool false), (.bool (de != 0), .bool true)]) (by kernel_rfl) (by kernel_rfl) ⟨rfl, (bo hd11), (bo hd10), (bo hd9), (bo hd8), trivial⟩ ?_
                          refine run_nwl 31 #[.slice aa L.length lc] (some 235) (α := Nat × Nat) (fun x => .func (.func 88) #[] #[.pointer (some ⟨(x.1), 0, none⟩), .pointer (some ⟨(x.2), 0, none⟩)]) (fun x => [((x.1), aO #[iV 0] 3), ((x.2), aO #[.slice aa L.length lc] 43)]) (fun x => True) (by kernel_rfl) (fun x p hp => by simp only [List.mem_cons, List.not_mem_nil, or_false] at hp; rcases hp with rfl | rfl <;> rfl) (fun w1 k1 h1 => draws_any L aa lc w1) (fun x hI6 hn6 => ?_)
                          obtain ⟨a6, b6⟩ := x
                          dsimp only at hI6 hn6
                          have ha6 := hn6 _ (List.mem_of_getElem? (i := 0) rfl)
                          have hb6 := hn6 _ (List.mem_of_getElem? (i := 1) rfl)
                          refine run_auto [] 11 [] [] [4, 8, 9, 15, 19, 29, 30, 31, 32, 236, 237, 238] [0, 1, 2, 3, 4, 5] (st' := ⟨[(4, pA b1), (8, .bool false), (9, pA b3), (15, iV m), (19, iV (T p.es.length).2), (29, iV dv), (30, iV de), (31, iV (T p.es.length).2), (32, .func (.func 88) #[] #[pA a6, pA b6]), (236, sV gd kd cd), (237, iV (kd : Int)), (238, iV 0)], [(a6, aO #[iV 0] 3), (b6, aO #[.slice aa L.length lc] 43), (gd, cO ((D).flatMap inR ++ sd) 3), (b3, aO #[iV p.ll, iV p.lh, iV p.ul, iV p.uh, sV g2 p.es.length cap2] 26), (g2, cO ((trB p L (some ⟨g2, 0, none⟩) cap2).es.flatMap evR ++ sp2) 55), (b1, aO #[iV p.ll, iV p.lh, iV p.ul, iV p.uh, .slice p.ea p.es.length p.ec] 26)]⟩) (acc := []) (by kernel_rfl) (by kernel_rfl) trivial ?_
                          refine run_auto [] 0 [] [] [4, 8, 9, 15, 19, 29, 30, 31, 32, 236, 237, 238] [0, 1, 2, 3, 4, 5] (st' := ⟨[(4, pA b1), (8, .bool false), (9, pA b3), (15, iV m), (19, iV (T p.es.length).2), (29, iV dv), (30, iV de), (31, iV (T p.es.length).2), (32, .func (.func 88) #[] #[pA a6, pA b6]), (236, sV gd kd cd), (237, iV (kd : Int)), (238, iV 0)], [(a6, aO #[iV 0] 3), (b6, aO #[.slice aa L.length lc] 43), (gd, cO ((D).flatMap inR ++ sd) 3), (b3, aO #[iV p.ll, iV p.lh, iV p.ul, iV p.uh, sV g2 p.es.length cap2] 26), (g2, cO ((trB p L (some ⟨g2, 0, none⟩) cap2).es.flatMap evR ++ sp2) 55), (b1, aO #[iV p.ll, iV p.lh, iV p.ul, iV p.uh, .slice p.ea p.es.length p.ec] 26)]⟩) (acc := []) (by kernel_rfl) (by kernel_rfl) trivial ?_
                          refine run_loop (S := fun (c : Nat) => ⟨[(4, pA b1), (8, .bool false), (9, pA b3), (15, iV m), (19, iV (T p.es.length).2), (29, iV dv), (30, iV de), (31, iV (N c).2), (32, .func (.func 88) #[] #[pA a6, pA b6]), (236, sV gd kd cd), (237, iV (kd : Int)), (238, iV (c : Int))], [(a6, aO #[iV ((N c).1 : Int)] 3), (b6, aO #[.slice aa L.length lc] 43), (gd, cO ((D).flatMap inR ++ sd) 3), (b3, aO #[iV p.ll, iV p.lh, iV p.ul, iV p.uh, sV g2 p.es.length cap2] 26), (g2, cO ((trB p L (some ⟨g2, 0, none⟩) cap2).es.flatMap evR ++ sp2) 55), (b1, aO #[iV p.ll, iV p.lh, iV p.ul, iV p.uh, .slice p.ea p.es.length p.ec] 26)]⟩) (fun c => c ≤ kd) (fun c => kd - c) (0) (by kernel_rfl) (Nat.zero_le _) (by rw [← hN]; kernel_rfl) (fun c hI2 J2 hJ2 => ?_)
                          have hNc := hNb c (by omega)
                          have hnb := now_bd hqF hD10 hDv (i := c) (by omega)
                          cases hd12 : (decide ((c : Int) < (kd : Int))) with
                          | false =>
                            have hp12 := of_decide_eq_false hd12
                            refine run_auto [(239, .bool false)] 8 [false] [] [8, 9, 19] [3, 4] (st' := ⟨[(8, .bool false), (9, pA b3), (19, iV (T p.es.length).2)], [(b3, aO #[iV p.ll, iV p.lh, iV p.ul, iV p.uh, sV g2 p.es.length cap2] 26), (g2, cO ((trB p L (some ⟨g2, 0, none⟩) cap2).es.flatMap evR ++ sp2) 55)]⟩) (acc := [(.bool false, .bool false), (.bool (decide ((c : Int) < (kd : Int))), .bool false)]) (by kernel_rfl) (by kernel_rfl) ⟨rfl, (bo hd12), trivial⟩ ?_
                            refine drawW 10 [{ val := fun _ => .agg #[iV p.ll, iV p.lh, iV p.ul, iV p.uh, sV g2 p.es.length cap2], slots := [9], reads := [0] },
                                                          { val := fun _ => iV (T p.es.length).2, slots := [19] },
                                                          { val := fun _ => iV (T p.es.length).2, slots := [19] },
                                                          { val := fun _ => .agg #[iV (T p.es.length).2, iV (T p.es.length).2], slots := [268, 269] },
                                                          { val := fun _ => .tuple #[iV gr, iV 0], slots := [267, 270], reads := [1] },
                                                          { val := fun _ => .tuple #[iV gr, iV 0], slots := [271] },
                                                          { val := fun _ => iV gr, slots := [266] },
                                                          { val := fun _ => iV 0, slots := [266] },
                                                          { val := fun _ => iV gr, slots := [272] },
                                                          { val := fun _ => iV 0, slots := [273] }] [[], [], [], [1, 2], [0, 1, 2, 3], [0, 1, 2, 3, 4], [0, 1, 2, 3, 4, 5], [0, 1, 2, 3, 4, 5], [0, 1, 2, 3, 4, 5, 6], [0, 1, 2, 3, 4, 5, 6, 7, 8]] (by kernel_rfl) (by kernel_rfl) (by kernel_rfl) (by kernel_rfl) [8, 35, 36] [] (by kernel_rfl)
                                                          ⟨⟨⟨⟨⟨⟨⟨⟨⟨⟨trivial,
                                                          tri_quietW (fun β => []) [0] [0] (fun β => [(pA b3, pA b3)]) (by kernel_rfl) (fun β extra => by kernel_rfl) (by kernel_rfl) (fun β => ⟨rfl, trivial⟩)⟩,
                                                          tri_quietW (fun β => []) [] [] (fun β => []) (by kernel_rfl) (fun β extra => by kernel_rfl) (by kernel_rfl) (fun β => trivial)⟩,
                                                          tri_quietW (fun β => []) [] [] (fun β => []) (by kernel_rfl) (fun β extra => by kernel_rfl) (by kernel_rfl) (fun β => trivial)⟩,
                                                          tri_callVW (fun β => .agg #[iV (T p.es.length).2, iV (T p.es.length).2]) (fun β => by kernel_rfl) 32 (fun β => #[iV (T p.es.length).2, iV (T p.es.length).2]) (by kernel_rfl) (fun β extra => by kernel_rfl) (fun β => by kernel_rfl) (fun β w1 k1 h1 => span_any (T p.es.length).2 (T p.es.length).2 w1)⟩,
                                                          tri_callVW (fun β => .tuple #[iV gr, iV 0]) (fun β => by kernel_rfl) 20 (fun β => #[.agg #[iV p.ll, iV p.lh, iV p.ul, iV p.uh, sV g2 p.es.length cap2], .agg #[iV (T p.es.length).2, iV (T p.es.length).2]]) (by kernel_rfl) (fun β extra => by kernel_rfl) (fun β => by kernel_rfl) (fun β w1 k1 h1 => (by have h := Fits_any (trB p L (some ⟨g2, 0, none⟩) cap2) ((T p.es.length).2, (T p.es.length).2) w1 ⟨Evs.of_flat (sp := sp2) (h1 (g2, cO ((trB p L (some ⟨g2, 0, none⟩) cap2).es.flatMap evR ++ sp2) 55) (List.mem_of_getElem? (i := 0) (by kernel_rfl))), by show (trB p L (some ⟨g2, 0, none⟩) cap2).es.length ≤ maxLen; rw [trB_len]; exact hp.ln⟩; rw [show (trB p L (some ⟨g2, 0, none⟩) cap2).es.length = p.es.length from trB_len _ _ _ _] at h; rw [show fitsR (trB p L (some ⟨g2, 0, none⟩) cap2) ((T p.es.length).2, (T p.es.length).2) = .inr gr from by rw [hq]; exact fitsR_ok hqF hqc hs1 (by rw [hql]; exact hgr)] at h; exact h))⟩,
                                                          tri_quietW (fun β => []) [] [] (fun β => []) (by kernel_rfl) (fun β extra => by kernel_rfl) (by kernel_rfl) (fun β => trivial)⟩,
                                                          tri_quietW (fun β => []) [] [] (fun β => []) (by kernel_rfl) (fun β extra => by kernel_rfl) (by kernel_rfl) (fun β => trivial)⟩,
                                                          tri_quietW (fun β => []) [] [] (fun β => []) (by kernel_rfl) (fun β extra => by kernel_rfl) (by kernel_rfl) (fun β => trivial)⟩,
                                                          tri_quietW (fun β => []) [] [] (fun β => []) (by kernel_rfl) (fun β extra => by kernel_rfl) (by kernel_rfl) (fun β => trivial)⟩,
                                                          tri_quietW (fun β => []) [] [] (fun β => []) (by kernel_rfl) (fun β extra => by kernel_rfl) (by kernel_rfl) (fun β => trivial)⟩
                                                          (fun β => ⟨[(8, .bool false), (35, iV gr), (36, iV 0)], []⟩) (fun β => by kernel_rfl) (fun β7 => ?_)
                            cases hd13 : (gr != 0) with
                            | false =>
                              have hp13 : gr = 0 := by simpa using hd13
                              exfalso
                              omega
                            | true =>
                              have hp13 : ¬ gr = 0 := by simpa using hd13
                              refine run_auto [(275, .bool true), (278, .bool true)] 9 [] [] [8, 280] [] (st' := ⟨[(8, .bool false), (280, .bool true)], []⟩) (acc := [(.bool (gr != 0), .bool true), (.bool true, .bool true)]) (by kernel_rfl) (by kernel_rfl) ⟨(bo hd13), rfl, trivial⟩ ?_
                              refine run_ret1 13 #[] (some 281) (.bool true) (by kernel_rfl) (fun w1 k1 h1 => awake_any w1) ?_
                              refine run_auto [] 3 [] [] [8] [] (st' := ⟨[(8, .bool true)], []⟩) (acc := []) (by kernel_rfl) (by kernel_rfl) trivial ?_
                              refine run_end (fn := f5) rfl (Nat.le_refl _) (by kernel_rfl) [] [.bool true] (e := []) (by kernel_rfl) trivial (fun w1 k1 h1 => ?_)
                              exact ⟨rfl, k1.keeps (fun _ h => h)⟩
                          | true =>
                            have hp12 := of_decide_eq_true hd12
                            have hck : c < kd := by omega
                            have hcu := use_of hDv (i := c) (by omega)
                            refine run_auto [(239, .bool true)] 12 [true] [] [4, 8, 9, 15, 19, 29, 30, 31, 32, 236, 237, 238, 240] [0, 1, 2, 3, 4, 5] (st' := ⟨[(4, pA b1), (8, .bool false), (9, pA b3), (15, iV m), (19, iV (T p.es.length).2), (29, iV dv), (30, iV de), (31, iV (N c).2), (32, .func (.func 88) #[] #[pA a6, pA b6]), (236, sV gd kd cd), (237, iV (kd : Int)), (238, iV (c : Int)), (240, iV (c : Int))], [(a6, aO #[iV ((N c).1 : Int)] 3), (b6, aO #[.slice aa L.length lc] 43), (gd, cO ((D).flatMap inR ++ sd) 3), (b3, aO #[iV p.ll, iV p.lh, iV p.ul, iV p.uh, sV g2 p.es.length cap2] 26), (g2, cO ((trB p L (some ⟨g2, 0, none⟩) cap2).es.flatMap evR ++ sp2) 55), (b1, aO #[iV p.ll, iV p.lh, iV p.ul, iV p.uh, .slice p.ea p.es.length p.ec] 26)]⟩) (acc := [(.bool true, .bool true), (.bool (decide ((c : Int) < (kd : Int))), .bool true)]) (by kernel_rfl) (by kernel_rfl) ⟨rfl, (bo hd12), trivial⟩ ?_
                            refine run_v (Instr.indexAt 38 (sV gd kd cd) (iV (c : Int)) >>= fun v => pure (Next.value v)) (some 241) (.pointer (some ⟨gd, c, none⟩)) (by kernel_rfl) (fun w1 k1 h1 => idx_off (e := 3) (n := 1) (by kernel_rfl) (by kernel_rfl) gd (0) kd cd .i64 c (by omega) (c) (by omega) w1) ?_
                            refine run_v (Instr.loadAt 3 (.pointer (some ⟨gd, c, none⟩)) >>= fun v => pure (Next.value v)) (some 242) (iV (elI D c)) (by kernel_rfl) (fun w1 k1 h1 => load_own (e := 3) (fr := (0, 0)) (c := (D).flatMap inR ++ sd) h1 (List.mem_of_getElem? (i := 2) (by kernel_rfl)) (flat_loadF (c := inR) (n := 1) inR_len (by kernel_rfl) (i := c) (k := 0) (by first | omega | (simp; omega)) (by rw [inR_at (by first | omega | (simp; omega))]; rfl) (by omega))) ?_
                            refine run_auto [] 10 [] [] [4, 8, 9, 15, 19, 29, 30, 31, 32, 236, 237, 238, 33, 243, 244] [0, 1, 2, 3, 4, 5] (st' := ⟨[(4, pA b1), (8, .bool false), (9, pA b3), (15, iV m), (19, iV (T p.es.length).2), (29, iV dv), (30, iV de), (31, iV (N c).2), (32, .func (.func 88) #[] #[pA a6, pA b6]), (236, sV gd kd cd), (237, iV (kd : Int)), (238, iV (c : Int)), (33, iV (c : Int)), (243, iV (elI D c)), (244, iV 0)], [(a6, aO #[iV ((N c).1 : Int)] 3), (b6, aO #[.slice aa L.length lc] 43), (gd, cO ((D).flatMap inR ++ sd) 3), (b3, aO #[iV p.ll, iV p.lh, iV p.ul, iV p.uh, sV g2 p.es.length cap2] 26), (g2, cO ((trB p L (some ⟨g2, 0, none⟩) cap2).es.flatMap evR ++ sp2) 55), (b1, aO #[iV p.ll, iV p.lh, iV p.ul, iV p.uh, .slice p.ea p.es.length p.ec] 26)]⟩) (acc := []) (by kernel_rfl) (by kernel_rfl) trivial ?_
                            refine run_auto [] 0 [] [] [4, 8, 9, 15, 19, 29, 30, 31, 32, 236, 237, 238, 33, 243, 244] [0, 1, 2, 3, 4, 5] (st' := ⟨[(4, pA b1), (8, .bool false), (9, pA b3), (15, iV m), (19, iV (T p.es.length).2), (29, iV dv), (30, iV de), (31, iV (N c).2), (32, .func (.func 88) #[] #[pA a6, pA b6]), (236, sV gd kd cd), (237, iV (kd : Int)), (238, iV (c : Int)), (33, iV (c : Int)), (243, iV (elI D c)), (244, iV 0)], [(a6, aO #[iV ((N c).1 : Int)] 3), (b6, aO #[.slice aa L.length lc] 43), (gd, cO ((D).flatMap inR ++ sd) 3), (b3, aO #[iV p.ll, iV p.lh, iV p.ul, iV p.uh, sV g2 p.es.length cap2] 26), (g2, cO ((trB p L (some ⟨g2, 0, none⟩) cap2).es.flatMap evR ++ sp2) 55), (b1, aO #[iV p.ll, iV p.lh, iV p.ul, iV p.uh, .slice p.ea p.es.length p.ec] 26)]⟩) (acc := []) (by kernel_rfl) (by kernel_rfl) trivial ?_
                            refine run_loop (S := fun (t : Nat) => ⟨[(4, pA b1), (8, .bool false), (9, pA b3), (15, iV m), (19, iV (T p.es.length).2), (29, iV dv), (30, iV de), (31, iV (usD L (p.ul, p.uh) (N c).1 (N c).2 t)), (32, .func (.func 88) #[] #[pA a6, pA b6]), (236, sV gd kd cd), (237, iV (kd : Int)), (238, iV (c : Int)), (33, iV (c : Int)), (243, iV (elI D c)), (244, iV (t : Int))], [(a6, aO #[iV (((N c).1 + t : Nat) : Int)] 3), (b6, aO #[.slice aa L.length lc] 43), (gd, cO ((D).flatMap inR ++ sd) 3), (b3, aO #[iV p.ll, iV p.lh, iV p.ul, iV p.uh, sV g2 p.es.length cap2] 26), (g2, cO ((trB p L (some ⟨g2, 0, none⟩) cap2).es.flatMap evR ++ sp2) 55), (b1, aO #[iV p.ll, iV p.lh, iV p.ul, iV p.uh, .slice p.ea p.es.length p.ec] 26)]⟩) (fun t => (t : Int) ≤ elI D c) (fun t => 20 - t) (0) (by kernel_rfl) (by omega) (by simp [usD]) (fun t hI3 J3 hJ3 => ?_)
                            have hub := usD_bd L (u := (p.ul, p.uh)) hu0.2.1 (N c).1 (N c).2 t
                            have ht1 : 0 ≤ (t : Int) * p.ul := Int.mul_nonneg (by omega) hu0.1
                            have ht2 : (t : Int) * p.uh ≤ 20 * 3 := Int.mul_le_mul (by omega) hu0.2.2 (by omega) (by omega)
                            dsimp only at hub
                            have hdi := dw_in L ((N c).1 + t) (s := (p.ul, p.uh)) hu0.2.1
                            dsimp only at hdi
                            cases hd13 : (decide ((t : Int) < (elI D c))) with
                            | false =>
                              have hp13 := of_decide_eq_false hd13
                              have htn : (elI D c).toNat = t := by omega
                              have hst : N (c + 1) = ((N c).1 + (elI D c).toNat, usD L (p.ul, p.uh) (N c).1 (N c).2 (elI D c).toNat) := by rw [← hN]; rfl
                              rw [htn] at hst
                              have hnk := hNb (c + 1) (by omega)
                              rw [hst] at hnk
                              dsimp only at hnk
                              cases hd14 : (decide ((usD L (p.ul, p.uh) (N c).1 (N c).2 t) < m)) with
                              | false =>
                                have hp14 := of_decide_eq_false hd14
                                refine run_auto [(245, .bool false), (255, .bool false), (265, iV ((c + 1 : Nat) : Int))] 29 [false, false] [] [4, 8, 9, 15, 19, 29, 30, 31, 32, 236, 237, 238] [0, 1, 2, 3, 4, 5] (st' := ⟨[(4, pA b1), (8, .bool false), (9, pA b3), (15, iV m), (19, iV (T p.es.length).2), (29, iV dv), (30, iV de), (31, iV (usD L (p.ul, p.uh) (N c).1 (N c).2 t)), (32, .func (.func 88) #[] #[pA a6, pA b6]), (236, sV gd kd cd), (237, iV (kd : Int)), (238, iV ((c + 1 : Nat) : Int))], [(a6, aO #[iV (((N c).1 + t : Nat) : Int)] 3), (b6, aO #[.slice aa L.length lc] 43), (gd, cO ((D).flatMap inR ++ sd) 3), (b3, aO #[iV p.ll, iV p.lh, iV p.ul, iV p.uh, sV g2 p.es.length cap2] 26), (g2, cO ((trB p L (some ⟨g2, 0, none⟩) cap2).es.flatMap evR ++ sp2) 55), (b1, aO #[iV p.ll, iV p.lh, iV p.ul, iV p.uh, .slice p.ea p.es.length p.ec] 26)]⟩) (acc := [(iV (IntKind.i64.wrap ((c : Int) + 1)), iV ((c + 1 : Nat) : Int)), (.bool false, .bool false), (.bool (decide ((usD L (p.ul, p.uh) (N c).1 (N c).2 t) < m)), .bool false), (.bool false, .bool false), (.bool (decide ((t : Int) < (elI D c))), .bool false)]) (by kernel_rfl) (by kernel_rfl) ⟨(wr (by omega) (by omega)), rfl, (bo hd14), rfl, (bo hd13), trivial⟩ ?_
                                have hj := hJ2 (c + 1) (by omega) (by omega)
                                rw [hst] at hj
                                exact run_round (by kernel_rfl) hj
                              | true =>
                                have hp14 := of_decide_eq_true hd14
                                have hle := hY.le (j := c) (by omega) (by omega)
                                refine run_auto [(245, .bool false), (255, .bool true), (258, .bool true)] 27 [false, true] [] [4, 8, 9, 15, 19, 29, 30, 31, 32, 236, 237, 238] [0, 1, 2, 3, 4, 5] (st' := ⟨[(4, pA b1), (8, .bool false), (9, pA b3), (15, iV m), (19, iV (T p.es.length).2), (29, iV dv), (30, iV de), (31, iV (usD L (p.ul, p.uh) (N c).1 (N c).2 t)), (32, .func (.func 88) #[] #[pA a6, pA b6]), (236, sV gd kd cd), (237, iV (kd : Int)), (238, iV (c : Int))], [(a6, aO #[iV (((N c).1 + t : Nat) : Int)] 3), (b6, aO #[.slice aa L.length lc] 43), (gd, cO ((D).flatMap inR ++ sd) 3), (b3, aO #[iV p.ll, iV p.lh, iV p.ul, iV p.uh, sV g2 p.es.length cap2] 26), (g2, cO ((trB p L (some ⟨g2, 0, none⟩) cap2).es.flatMap evR ++ sp2) 55), (b1, aO #[iV p.ll, iV p.lh, iV p.ul, iV p.uh, .slice p.ea p.es.length p.ec] 26)]⟩) (acc := [(.bool true, .bool true), (.bool (de != 0), .bool true), (.bool (decide ((usD L (p.ul, p.uh) (N c).1 (N c).2 t) < m)), .bool true), (.bool false, .bool false), (.bool (decide ((t : Int) < (elI D c))), .bool false)]) (by kernel_rfl) (by kernel_rfl) ⟨rfl, (bo hd8), (bo hd14), rfl, (bo hd13), trivial⟩ ?_
                                refine run_end (fn := f5) rfl (Nat.le_refl _) (by kernel_rfl) [] [.bool false] (e := []) (by kernel_rfl) trivial (fun w1 k1 h1 => ?_)
                                exfalso
                                omega
                            | true =>
                              have hp13 := of_decide_eq_true hd13
                              refine run_auto [(245, .bool true)] 14 [true] [5] [4, 8, 9, 15, 19, 29, 30, 31, 32, 236, 237, 238, 33, 243, 244, 246, 247, 249] [0, 1, 2, 3, 4, 5] (st' := ⟨[(4, pA b1), (8, .bool false), (9, pA b3), (15, iV m), (19, iV (T p.es.length).2), (29, iV dv), (30, iV de), (31, iV (usD L (p.ul, p.uh) (N c).1 (N c).2 t)), (32, .func (.func 88) #[] #[pA a6, pA b6]), (236, sV gd kd cd), (237, iV (kd : Int)), (238, iV (c : Int)), (33, iV (c : Int)), (243, iV (elI D c)), (244, iV (t : Int)), (246, iV (usD L (p.ul, p.uh) (N c).1 (N c).2 t)), (247, .func (.func 88) #[] #[pA a6, pA b6]), (249, .agg #[iV p.ul, iV p.uh])], [(a6, aO #[iV (((N c).1 + t : Nat) : Int)] 3), (b6, aO #[.slice aa L.length lc] 43), (gd, cO ((D).flatMap inR ++ sd) 3), (b3, aO #[iV p.ll, iV p.lh, iV p.ul, iV p.uh, sV g2 p.es.length cap2] 26), (g2, cO ((trB p L (some ⟨g2, 0, none⟩) cap2).es.flatMap evR ++ sp2) 55), (b1, aO #[iV p.ll, iV p.lh, iV p.ul, iV p.uh, .slice p.ea p.es.length p.ec] 26)]⟩) (acc := [(pA b1, pA b1), (.bool true, .bool true), (.bool (decide ((t : Int) < (elI D c))), .bool true)]) (by kernel_rfl) (by kernel_rfl) ⟨rfl, rfl, (bo hd13), trivial⟩ ?_
                              refine run_wr 88 #[.agg #[iV p.ul, iV p.uh], pA a6, pA b6] (some 250) (iV (dwS L ((N c).1 + t : Nat) (p.ul, p.uh))) 0 a6 (aO #[iV (((N c).1 + t : Nat) : Int)] 3) (aO #[iV ((((N c).1 + t : Nat) + 1 : Nat) : Int)] 3) (by kernel_rfl) (by kernel_rfl) (by kernel_rfl) (fun w1 k1 h1 => draw_any a6 b6 ((N c).1 + t : Nat) lc p.ul p.uh L aa (by omega) (by omega) (by omega) (by omega) w1 (h1 (a6, aO #[iV (((N c).1 + t : Nat) : Int)] 3) (List.mem_of_getElem? (i := 0) (by kernel_rfl))) (h1 (b6, aO #[.slice aa L.length lc] 43) (List.mem_of_getElem? (i := 1) (by kernel_rfl))) (hU.us (k1.keeps (fun _ h => h)) ha6) hlm) ?_
                              refine run_auto [(251, iV ((usD L (p.ul, p.uh) (N c).1 (N c).2 t) - (dwS L ((N c).1 + t : Nat) (p.ul, p.uh)))), (252, iV ((t + 1 : Nat) : Int))] 8 [] [] [4, 8, 9, 15, 19, 29, 30, 31, 32, 236, 237, 238, 33, 243, 244] [0, 1, 2, 3, 4, 5] (st' := ⟨[(4, pA b1), (8, .bool false), (9, pA b3), (15, iV m), (19, iV (T p.es.length).2), (29, iV dv), (30, iV de), (31, iV ((usD L (p.ul, p.uh) (N c).1 (N c).2 t) - (dwS L ((N c).1 + t : Nat) (p.ul, p.uh)))), (32, .func (.func 88) #[] #[pA a6, pA b6]), (236, sV gd kd cd), (237, iV (kd : Int)), (238, iV (c : Int)), (33, iV (c : Int)), (243, iV (elI D c)), (244, iV ((t + 1 : Nat) : Int))], [(a6, aO #[iV ((((N c).1 + t : Nat) + 1 : Nat) : Int)] 3), (b6, aO #[.slice aa L.length lc] 43), (gd, cO ((D).flatMap inR ++ sd) 3), (b3, aO #[iV p.ll, iV p.lh, iV p.ul, iV p.uh, sV g2 p.es.length cap2] 26), (g2, cO ((trB p L (some ⟨g2, 0, none⟩) cap2).es.flatMap evR ++ sp2) 55), (b1, aO #[iV p.ll, iV p.lh, iV p.ul, iV p.uh, .slice p.ea p.es.length p.ec] 26)]⟩) (acc := [(iV (IntKind.i64.wrap ((t : Int) + 1)), iV ((t + 1 : Nat) : Int)), (iV (IntKind.i64.wrap ((usD L (p.ul, p.uh) (N c).1 (N c).2 t) - (dwS L ((N c).1 + t : Nat) (p.ul, p.uh)))), iV ((usD L (p.ul, p.uh) (N c).1 (N c).2 t) - (dwS L ((N c).1 + t : Nat) (p.ul, p.uh))))]) (by kernel_rfl) (by kernel_rfl) ⟨(wr (by omega) (by omega)), (wr (by omega) (by omega)), trivial⟩ ?_
                              exact run_round (by kernel_rfl) (hJ3 (t + 1) (by omega) (by omega))
                        | true =>
                          have hp11 : de = 0 := by simpa using hd11
                          exfalso
                          omega
                      | true =>
                        have hp10 : ¬ dv = 0 := by simpa using hd10
                        exfalso
                        omega
                    | true =>
                      have hp9 : ¬ de = 4 := by simpa using hd9
                      exfalso
                      omega
                | true =>
                  have hp7 := of_decide_eq_true hd7
                  have hil : i < xs.length := by omega
                  obtain ⟨bx, ox, hba, hcx⟩ := hB (by intro h; rw [h] at hil; cases hil)
                  have hc := hcx i hil
                  refine run_auto [(189, .bool true)] 12 [true] [] [1, 4, 8, 9, 15, 19, 26, 186, 187, 188, 190] [0, 1, 2, 3] (st' := ⟨[(1, .slice aa L.length lc), (4, pA b1), (8, .bool false), (9, pA b3), (15, iV m), (19, iV (T p.es.length).2), (26, sV gd kd cd), (186, .slice sa xs.length sk), (187, iV (xs.length : Int)), (188, iV (i : Int)), (190, iV (i : Int))], [(gd, cO ((Dl xs i).flatMap inR ++ sd) 3), (b3, aO #[iV p.ll, iV p.lh, iV p.ul, iV p.uh, sV g2 p.es.length cap2] 26), (g2, cO ((trB p L (some ⟨g2, 0, none⟩) cap2).es.flatMap evR ++ sp2) 55), (b1, aO #[iV p.ll, iV p.lh, iV p.ul, iV p.uh, .slice p.ea p.es.length p.ec] 26)]⟩) (acc := [(.bool true, .bool true), (.bool (decide ((i : Int) < (xs.length : Int))), .bool true)]) (by kernel_rfl) (by kernel_rfl) ⟨rfl, (bo hd7), trivial⟩ ?_
                  refine run_v (Instr.indexAt 45 (.slice sa xs.length sk) (iV (i : Int)) >>= fun v => pure (Next.value v)) (some 191) (.pointer (some ⟨bx, ox + i, none⟩)) (by kernel_rfl) (fun w1 k1 h1 => (by rw [hba]; exact idx_off (e := 5) (n := 1) (by kernel_rfl) (by kernel_rfl) bx ox xs.length sk .i64 i hil (ox + i) (by omega) w1)) ?_
                  refine run_v (Instr.loadAt 5 (.pointer (some ⟨bx, ox + i, none⟩)) >>= fun v => pure (Next.value v)) (some 192) (.int .u8 (elI xs i)) (by kernel_rfl) (fun w1 k1 h1 => load_in (off := 0) k1 (fun h => h) [.int .u8 (elI xs i)] (c1 hc.1) (by kernel_rfl)) ?_
                  cases hd8 : (decide ((i : Int) < 10)) with
                  | false =>
                    have hp8 := of_decide_eq_false hd8
                    refine run_auto [(194, .bool false), (201, iV ((i + 1 : Nat) : Int))] 15 [false] [] [1, 4, 8, 9, 15, 19, 26, 186, 187, 188] [0, 1, 2, 3] (st' := ⟨[(1, .slice aa L.length lc), (4, pA b1), (8, .bool false), (9, pA b3), (15, iV m), (19, iV (T p.es.length).2), (26, sV gd kd cd), (186, .slice sa xs.length sk), (187, iV (xs.length : Int)), (188, iV ((i + 1 : Nat) : Int))], [(gd, cO ((Dl xs i).flatMap inR ++ sd) 3), (b3, aO #[iV p.ll, iV p.lh, iV p.ul, iV p.uh, sV g2 p.es.length cap2] 26), (g2, cO ((trB p L (some ⟨g2, 0, none⟩) cap2).es.flatMap evR ++ sp2) 55), (b1, aO #[iV p.ll, iV p.lh, iV p.ul, iV p.uh, .slice p.ea p.es.length p.ec] 26)]⟩) (acc := [(iV (IntKind.i64.wrap ((i : Int) + 1)), iV ((i + 1 : Nat) : Int)), (.bool false, .bool false), (.bool (decide ((i : Int) < 10)), .bool false)]) (by kernel_rfl) (by kernel_rfl) ⟨(wr (by omega) (by omega)), rfl, (bo hd8), trivial⟩ ?_
                    have hst := Dl_no (xs := xs) (i := i) (by omega)
                    have hj := hJ1 ((i + 1, kd, some (gd, cd, sd))) (⟨by dsimp only; omega, by rw [hst]; exact hz2, hz4, hz5, hz6, by rw [hst]; exact hz7, hz8⟩) (by dsimp only; omega)
                    dsimp only at hj
                    rw [hst] at hj
                    exact run_round (by kernel_rfl) hj
                  | true =>
                    have hp8 := of_decide_eq_true hd8
                    refine run_auto [(194, .bool true), (197, iV (elI xs i)), (198, iV (elI xs i % 21))] 14 [true] [] [1, 4, 8, 9, 15, 19, 26, 186, 187, 188, 195, 198] [0, 1, 2, 3] (st' := ⟨[(1, .slice aa L.length lc), (4, pA b1), (8, .bool false), (9, pA b3), (15, iV m), (19, iV (T p.es.length).2), (26, sV gd kd cd), (186, .slice sa xs.length sk), (187, iV (xs.length : Int)), (188, iV (i : Int)), (195, sV gd kd cd), (198, iV (elI xs i % 21))], [(gd, cO ((Dl xs i).flatMap inR ++ sd) 3), (b3, aO #[iV p.ll, iV p.lh, iV p.ul, iV p.uh, sV g2 p.es.length cap2] 26), (g2, cO ((trB p L (some ⟨g2, 0, none⟩) cap2).es.flatMap evR ++ sp2) 55), (b1, aO #[iV p.ll, iV p.lh, iV p.ul, iV p.uh, .slice p.ea p.es.length p.ec] 26)]⟩) (acc := [(iV (Int.tmod (elI xs i) 21), iV (elI xs i % 21)), (iV (IntKind.i64.wrap (elI xs i)), iV (elI xs i)), (.bool true, .bool true), (.bool (decide ((i : Int) < 10)), .bool true)]) (by kernel_rfl) (by kernel_rfl) ⟨(rm 21 (by omega)), (wr (by omega) (by omega)), rfl, (bo hd8), trivial⟩ ?_
                    refine run_new (aO #[iV (elI xs i % 21)] 3) (fun b6 => sV b6 1 1) (some 199) (fun _ => by kernel_rfl) (fun b6 hb6 => ?_)
                    refine run_app (t := 38) (ty := 38) (e := 3) (n := 1) (z := (iV 0)) (by kernel_rfl) (by kernel_rfl) (by kernel_rfl) rfl (by kernel_rfl) inR inR_len inR_one (some 200) 1 gd kd 1 cd 1 (Dl xs i) ([(elI xs i % 21)] : List Int) sd ⟨b6, 0, none⟩ (by first | rfl | omega | (simp; done) | (simp; omega)) (by first | rfl | omega | (simp; done) | (simp; omega)) (by kernel_rfl) (by kernel_rfl) hz6 hz7 (fun w1 k1 h1 jq uq hu => by rw [add_none, Nat.zero_add]; exact cells_of_heap (h1 (b6, aO #[iV (elI xs i % 21)] 3) (List.mem_of_getElem? (i := 0) (by kernel_rfl))) jq uq hu) (by omega) hz8 (fun b7 cap7 sp7 hb7 hqb7 hmb7 hlb7 => ?_)
                    refine run_auto [(201, iV ((i + 1 : Nat) : Int))] 7 [] [] [1, 4, 8, 9, 15, 19, 26, 186, 187, 188] [0, 2, 3, 4] (st' := ⟨[(1, .slice aa L.length lc), (4, pA b1), (8, .bool false), (9, pA b3), (15, iV m), (19, iV (T p.es.length).2), (26, sV b7 (kd + 1) cap7), (186, .slice sa xs.length sk), (187, iV (xs.length : Int)), (188, iV ((i + 1 : Nat) : Int))], [(b7, cO ((Dl xs i ++ ([(elI xs i % 21)] : List Int)).flatMap inR ++ sp7) 3), (b3, aO #[iV p.ll, iV p.lh, iV p.ul, iV p.uh, sV g2 p.es.length cap2] 26), (g2, cO ((trB p L (some ⟨g2, 0, none⟩) cap2).es.flatMap evR ++ sp2) 55), (b1, aO #[iV p.ll, iV p.lh, iV p.ul, iV p.uh, .slice p.ea p.es.length p.ec] 26)]⟩) (acc := [(iV (IntKind.i64.wrap ((i : Int) + 1)), iV ((i + 1 : Nat) : Int))]) (by kernel_rfl) (by kernel_rfl) ⟨(wr (by omega) (by omega)), trivial⟩ ?_
                    have hst := Dl_yes hil (show i < 10 by omega)
                    have hj := hJ1 ((i + 1, kd + 1, some (b7, cap7, sp7))) (⟨by dsimp only; omega, by rw [hst]; rw [List.length_append, hz2]; rfl, by dsimp only; omega, hqb7, hmb7, by rw [hst]; exact hlb7, hb7⟩) (by dsimp only; omega)
                    dsimp only at hj
                    rw [hst] at hj
                    exact run_round (by kernel_rfl) hj
            | true =>
              have hp6 : ue = 0 := by simpa using hd6
              exfalso
              omega
          | true =>
            have hp5 : ¬ uv = 0 := by simpa using hd5
            exfalso
            omega
        | true =>
          have hp4 : ¬ ue = 4 := by simpa using hd4
          exfalso
          omega
    | true =>
      have hp2 := of_decide_eq_true hd2
      have hkl : k < p.es.length := by omega
      have hcut := cut_one1 (g := gl2) (cap := cl2) (by omega)
      have hkt := hqT.mC hqF (j := k + 1) (by show k + 1 ≤ q.es.length; omega)
      try dsimp only at hkt
      have hbk := bel_bits (show k < q.es.length by omega) hsb hpb
      have hki : inB (T (k + 1)).2 (mC q.n (k + 1)) = true := decide_eq_true hkt
      refine run_auto [(104, .bool true)] 12 [true] [] [1, 3, 4, 8, 9, 15, 16, 17, 19, 101, 102, 103, 105] [0, 1, 2, 3] (st' := ⟨[(1, .slice aa L.length lc), (3, .slice sa xs.length sk), (4, pA b1), (8, .bool false), (9, pA b3), (15, iV m), (16, iV (sb : Int)), (17, iV (pb : Int)), (19, iV (T p.es.length).2), (101, .slice (some (cutA gl2 0 1 cl2 1)) ((p.es.length + 1) - 1) (cl2 - 1)), (102, iV ((((p.es.length + 1) - 1) : Nat) : Int)), (103, iV (k : Int)), (105, iV (k : Int))], [(b3, aO #[iV p.ll, iV p.lh, iV p.ul, iV p.uh, sV g2 p.es.length cap2] 26), (g2, cO ((trB p L (some ⟨g2, 0, none⟩) cap2).es.flatMap evR ++ sp2) 55), (gl2, cO ((lnT T p.es.length).flatMap inR ++ sl2) 3), (b1, aO #[iV p.ll, iV p.lh, iV p.ul, iV p.uh, .slice p.ea p.es.length p.ec] 26)]⟩) (acc := [(.bool true, .bool true), (.bool (decide ((k : Int) < ((((p.es.length + 1) - 1) : Nat) : Int))), .bool true)]) (by kernel_rfl) (by kernel_rfl) ⟨rfl, (bo hd2), trivial⟩ ?_
      refine run_v (Instr.indexAt 38 (.slice (some (cutA gl2 0 1 cl2 1)) ((p.es.length + 1) - 1) (cl2 - 1)) (iV (k : Int)) >>= fun v => pure (Next.value v)) (some 106) (.pointer (some ⟨gl2, 1 + k, none⟩)) (by kernel_rfl) (fun w1 k1 h1 => (by rw [hcut]; exact idx_off (e := 3) (n := 1) (by kernel_rfl) (by kernel_rfl) gl2 1 ((p.es.length + 1) - 1) (cl2 - 1) .i64 k (by omega) (1 + k) (by omega) w1)) ?_
      refine run_v (Instr.loadAt 3 (.pointer (some ⟨gl2, 1 + k, none⟩)) >>= fun v => pure (Next.value v)) (some 107) (iV ((T (k + 1)).2)) (by kernel_rfl) (fun w1 k1 h1 => load_own (e := 3) (fr := (0, 0)) (c := (lnT T p.es.length).flatMap inR ++ sl2) h1 (List.mem_of_getElem? (i := 2) (by kernel_rfl)) (flat_loadF (c := inR) (n := 1) inR_len (by kernel_rfl) (i := 1 + k) (k := 0) (by first | omega | (simp; done) | (simp; omega)) (by rw [lnT_row (i' := k + 1) (by first | omega | (simp; done) | (simp; omega)) (by omega)]; rfl) (by omega))) ?_
      refine run_auto [] 7 [] [0] [1, 3, 4, 8, 9, 15, 16, 17, 19, 101, 102, 103, 20, 21, 109, 110] [0, 1, 2, 3] (st' := ⟨[(1, .slice aa L.length lc), (3, .slice sa xs.length sk), (4, pA b1), (8, .bool false), (9, pA b3), (15, iV m), (16, iV (sb : Int)), (17, iV (pb : Int)), (19, iV (T p.es.length).2), (101, .slice (some (cutA gl2 0 1 cl2 1)) ((p.es.length + 1) - 1) (cl2 - 1)), (102, iV ((((p.es.length + 1) - 1) : Nat) : Int)), (103, iV (k : Int)), (20, iV (k : Int)), (21, iV ((T (k + 1)).2)), (109, .agg #[iV p.ll, iV p.lh, iV p.ul, iV p.uh, sV g2 p.es.length cap2]), (110, iV (k : Int))], [(b3, aO #[iV p.ll, iV p.lh, iV p.ul, iV p.uh, sV g2 p.es.length cap2] 26), (g2, cO ((trB p L (some ⟨g2, 0, none⟩) cap2).es.flatMap evR ++ sp2) 55), (gl2, cO ((lnT T p.es.length).flatMap inR ++ sl2) 3), (b1, aO #[iV p.ll, iV p.lh, iV p.ul, iV p.uh, .slice p.ea p.es.length p.ec] 26)]⟩) (acc := [(pA b3, pA b3)]) (by kernel_rfl) (by kernel_rfl) ⟨rfl, trivial⟩ ?_
      refine run_ret1 14 #[.agg #[iV p.ll, iV p.lh, iV p.ul, iV p.uh, sV g2 p.es.length cap2], iV (k : Int)] (some 111) (.tuple #[.agg #[iV ((mC q.n (k + 1)).1), iV ((mC q.n (k + 1)).2)], iV 0]) (by kernel_rfl) (fun w1 k1 h1 => (by have h := After_any (trB p L (some ⟨g2, 0, none⟩) cap2) (k : Int) w1 ⟨Evs.of_flat (sp := sp2) (h1 (g2, cO ((trB p L (some ⟨g2, 0, none⟩) cap2).es.flatMap evR ++ sp2) 55) (List.mem_of_getElem? (i := 1) (by kernel_rfl))), by show (trB p L (some ⟨g2, 0, none⟩) cap2).es.length ≤ maxLen; rw [trB_len]; exact hp.ln⟩; rw [show (trB p L (some ⟨g2, 0, none⟩) cap2).es.length = p.es.length from trB_len _ _ _ _] at h; rw [show afterR (trB p L (some ⟨g2, 0, none⟩) cap2) (k : Int) = .inr (mC q.n (k + 1)) from by rw [hq]; exact afterR_ok hqF hqc (by rw [hql]; omega)] at h; exact h)) ?_
      refine run_auto [] 3 [] [] [1, 3, 4, 8, 9, 15, 16, 17, 19, 101, 102, 103, 20, 21, 112, 113] [0, 1, 2, 3] (st' := ⟨[(1, .slice aa L.length lc), (3, .slice sa xs.length sk), (4, pA b1), (8, .bool false), (9, pA b3), (15, iV m), (16, iV (sb : Int)), (17, iV (pb : Int)), (19, iV (T p.es.length).2), (101, .slice (some (cutA gl2 0 1 cl2 1)) ((p.es.length + 1) - 1) (cl2 - 1)), (102, iV ((((p.es.length + 1) - 1) : Nat) : Int)), (103, iV (k : Int)), (20, iV (k : Int)), (21, iV ((T (k + 1)).2)), (112, .agg #[iV ((mC q.n (k + 1)).1), iV ((mC q.n (k + 1)).2)]), (113, iV 0)], [(b3, aO #[iV p.ll, iV p.lh, iV p.ul, iV p.uh, sV g2 p.es.length cap2] 26), (g2, cO ((trB p L (some ⟨g2, 0, none⟩) cap2).es.flatMap evR ++ sp2) 55), (gl2, cO ((lnT T p.es.length).flatMap inR ++ sl2) 3), (b1, aO #[iV p.ll, iV p.lh, iV p.ul, iV p.uh, .slice p.ea p.es.length p.ec] 26)]⟩) (acc := []) (by kernel_rfl) (by kernel_rfl) trivial ?_
      refine run_new (aO #[iV 0, iV 0] 23) (fun b6 => pA b6) (some 22) (fun _ => by kernel_rfl) (fun b6 hb6 => ?_)
      refine run_auto [(115, .bool false)] 10 [] [0, 0] [1, 3, 4, 8, 9, 15, 16, 17, 19, 101, 102, 103, 20, 21, 116, 117, 118] [1, 2, 3, 4] (st' := ⟨[(1, .slice aa L.length lc), (3, .slice sa xs.length sk), (4, pA b1), (8, .bool false), (9, pA b3), (15, iV m), (16, iV (sb : Int)), (17, iV (pb : Int)), (19, iV (T p.es.length).2), (101, .slice (some (cutA gl2 0 1 cl2 1)) ((p.es.length + 1) - 1) (cl2 - 1)), (102, iV ((((p.es.length + 1) - 1) : Nat) : Int)), (103, iV (k : Int)), (20, iV (k : Int)), (21, iV ((T (k + 1)).2)), (116, .bool false), (117, iV ((T (k + 1)).2)), (118, .agg #[iV ((mC q.n (k + 1)).1), iV ((mC q.n (k + 1)).2)])], [(b3, aO #[iV p.ll, iV p.lh, iV p.ul, iV p.uh, sV g2 p.es.length cap2] 26), (g2, cO ((trB p L (some ⟨g2, 0, none⟩) cap2).es.flatMap evR ++ sp2) 55), (gl2, cO ((lnT T p.es.length).flatMap inR ++ sl2) 3), (b1, aO #[iV p.ll, iV p.lh, iV p.ul, iV p.uh, .slice p.ea p.es.length p.ec] 26)]⟩) (acc := [(pA b6, pA b6), (.bool false, .bool false), (pA b6, pA b6)]) (by kernel_rfl) (by kernel_rfl) ⟨rfl, rfl, rfl, trivial⟩ ?_
      refine run_ret1 30 #[iV ((T (k + 1)).2), .agg #[iV ((mC q.n (k + 1)).1), iV ((mC q.n (k + 1)).2)]] (some 119) (.bool true) (by kernel_rfl) (fun w1 k1 h1 => (by have h := inside_any ((T (k + 1)).2) (mC q.n (k + 1)) w1; rw [hki] at h; exact h)) ?_
      cases hd3 : (decide (((T (k + 1)).2) < m)) with
      | false =>
        have hp3 := of_decide_eq_false hd3
        cases hd4 : (decide (m ≤ ((T (k + 1)).2))) with
        | false =>
          have hp4 := of_decide_eq_false hd4
          exfalso
          omega
        | true =>
          have hp4 := of_decide_eq_true hd4
          have hsk : sb.testBit k = false := by rw [hbk.1]; exact decide_eq_false (by omega)
          refine run_auto [(120, .bool false), (125, .bool false), (137, .bool true)] 21 [] [] [1, 3, 4, 8, 9, 15, 16, 17, 19, 101, 102, 103, 134, 138, 139, 140] [0, 1, 2, 3] (st' := ⟨[(1, .slice aa L.length lc), (3, .slice sa xs.length sk), (4, pA b1), (8, .bool false), (9, pA b3), (15, iV m), (16, iV (sb : Int)), (17, iV (pb : Int)), (19, iV (T p.es.length).2), (101, .slice (some (cutA gl2 0 1 cl2 1)) ((p.es.length + 1) - 1) (cl2 - 1)), (102, iV ((((p.es.length + 1) - 1) : Nat) : Int)), (103, iV (k : Int)), (134, .bool false), (138, .bool true), (139, iV (sb : Int)), (140, iV (k : Int))], [(b3, aO #[iV p.ll, iV p.lh, iV p.ul, iV p.uh, sV g2 p.es.length cap2] 26), (g2, cO ((trB p L (some ⟨g2, 0, none⟩) cap2).es.flatMap evR ++ sp2) 55), (gl2, cO ((lnT T p.es.length).flatMap inR ++ sl2) 3), (b1, aO #[iV p.ll, iV p.lh, iV p.ul, iV p.uh, .slice p.ea p.es.length p.ec] 26)]⟩) (acc := [(.bool (decide (m ≤ ((T (k + 1)).2))), .bool true), (.bool (decide (((T (k + 1)).2) < m)), .bool false), (.bool false, .bool false)]) (by kernel_rfl) (by kernel_rfl) ⟨(bo hd4), (bo hd3), rfl, trivial⟩ ?_
          refine run_v (binOp .shr 3 (iV (sb : Nat)) (iV (k : Nat)) >>= fun v => pure (Next.value v)) (some 141) (iV ((sb >>> k : Nat) : Int)) (by kernel_rfl) (fun w1 k1 h1 => shr_run sb k (by omega)) ?_
          refine run_auto [(142, iV (((sb >>> k : Nat) &&& 1 : Nat) : Int)), (143, .bool false), (146, iV ((k + 1 : Nat) : Int))] 12 [false] [] [1, 3, 4, 8, 9, 15, 16, 17, 19, 101, 102, 103] [0, 1, 2, 3] (st' := ⟨[(1, .slice aa L.length lc), (3, .slice sa xs.length sk), (4, pA b1), (8, .bool false), (9, pA b3), (15, iV m), (16, iV (sb : Int)), (17, iV (pb : Int)), (19, iV (T p.es.length).2), (101, .slice (some (cutA gl2 0 1 cl2 1)) ((p.es.length + 1) - 1) (cl2 - 1)), (102, iV ((((p.es.length + 1) - 1) : Nat) : Int)), (103, iV ((k + 1 : Nat) : Int))], [(b3, aO #[iV p.ll, iV p.lh, iV p.ul, iV p.uh, sV g2 p.es.length cap2] 26), (g2, cO ((trB p L (some ⟨g2, 0, none⟩) cap2).es.flatMap evR ++ sp2) 55), (gl2, cO ((lnT T p.es.length).flatMap inR ++ sl2) 3), (b1, aO #[iV p.ll, iV p.lh, iV p.ul, iV p.uh, .slice p.ea p.es.length p.ec] 26)]⟩) (acc := [(iV (IntKind.i64.wrap ((k : Int) + 1)), iV ((k + 1 : Nat) : Int)), (.bool false, .bool false), (.bool ((((sb >>> k : Nat) &&& 1 : Nat) : Int) == 1), .bool false), (iV (bits .and .i64 ((sb >>> k : Nat) : Int) 1), iV (((sb >>> k : Nat) &&& 1 : Nat) : Int))]) (by kernel_rfl) (by kernel_rfl) ⟨(wr (by omega) (by omega)), rfl, ((bo (has_bit sb k)).trans (bo hsk)), (and_nat (sb >>> k : Nat) 1 (by have := Nat.shiftRight_le sb k; omega) (by omega)), trivial⟩ ?_
          exact run_round (by kernel_rfl) (hJ0 (k + 1) (by omega) (by omega))
      | true =>
        have hp3 := of_decide_eq_true hd3
        have hpk : pb.testBit k = true := by rw [hbk.2]; exact decide_eq_true (by omega)
        refine run_auto [(120, .bool false), (125, .bool true)] 9 [] [] [1, 3, 4, 8, 9, 15, 16, 17, 19, 101, 102, 103, 20, 21, 122, 126, 127, 128] [0, 1, 2, 3] (st' := ⟨[(1, .slice aa L.length lc), (3, .slice sa xs.length sk), (4, pA b1), (8, .bool false), (9, pA b3), (15, iV m), (16, iV (sb : Int)), (17, iV (pb : Int)), (19, iV (T p.es.length).2), (101, .slice (some (cutA gl2 0 1 cl2 1)) ((p.es.length + 1) - 1) (cl2 - 1)), (102, iV ((((p.es.length + 1) - 1) : Nat) : Int)), (103, iV (k : Int)), (20, iV (k : Int)), (21, iV ((T (k + 1)).2)), (122, .bool false), (126, .bool true), (127, iV (pb : Int)), (128, iV (k : Int))], [(b3, aO #[iV p.ll, iV p.lh, iV p.ul, iV p.uh, sV g2 p.es.length cap2] 26), (g2, cO ((trB p L (some ⟨g2, 0, none⟩) cap2).es.flatMap evR ++ sp2) 55), (gl2, cO ((lnT T p.es.length).flatMap inR ++ sl2) 3), (b1, aO #[iV p.ll, iV p.lh, iV p.ul, iV p.uh, .slice p.ea p.es.length p.ec] 26)]⟩) (acc := [(.bool (decide (((T (k + 1)).2) < m)), .bool true), (.bool false, .bool false)]) (by kernel_rfl) (by kernel_rfl) ⟨(bo hd3), rfl, trivial⟩ ?_
        refine run_v (binOp .shr 3 (iV (pb : Nat)) (iV (k : Nat)) >>= fun v => pure (Next.value v)) (some 129) (iV ((pb >>> k : Nat) : Int)) (by kernel_rfl) (fun w1 k1 h1 => shr_run pb k (by omega)) ?_
        cases hd4 : (decide (m ≤ ((T (k + 1)).2))) with
        | false =>
          have hp4 := of_decide_eq_false hd4
          refine run_auto [(130, iV (((pb >>> k : Nat) &&& 1 : Nat) : Int)), (131, .bool false), (137, .bool false), (146, iV ((k + 1 : Nat) : Int))] 24 [false] [] [1, 3, 4, 8, 9, 15, 16, 17, 19, 101, 102, 103] [0, 1, 2, 3] (st' := ⟨[(1, .slice aa L.length lc), (3, .slice sa xs.length sk), (4, pA b1), (8, .bool false), (9, pA b3), (15, iV m), (16, iV (sb : Int)), (17, iV (pb : Int)), (19, iV (T p.es.length).2), (101, .slice (some (cutA gl2 0 1 cl2 1)) ((p.es.length + 1) - 1) (cl2 - 1)), (102, iV ((((p.es.length + 1) - 1) : Nat) : Int)), (103, iV ((k + 1 : Nat) : Int))], [(b3, aO #[iV p.ll, iV p.lh, iV p.ul, iV p.uh, sV g2 p.es.length cap2] 26), (g2, cO ((trB p L (some ⟨g2, 0, none⟩) cap2).es.flatMap evR ++ sp2) 55), (gl2, cO ((lnT T p.es.length).flatMap inR ++ sl2) 3), (b1, aO #[iV p.ll, iV p.lh, iV p.ul, iV p.uh, .slice p.ea p.es.length p.ec] 26)]⟩) (acc := [(iV (IntKind.i64.wrap ((k : Int) + 1)), iV ((k + 1 : Nat) : Int)), (.bool false, .bool false), (.bool (decide (m ≤ ((T (k + 1)).2))), .bool false), (.bool ((((pb >>> k : Nat) &&& 1 : Nat) : Int) == 0), .bool false), (iV (bits .and .i64 ((pb >>> k : Nat) : Int) 1), iV (((pb >>> k : Nat) &&& 1 : Nat) : Int))]) (by kernel_rfl) (by kernel_rfl) ⟨(wr (by omega) (by omega)), rfl, (bo hd4), (bo (by rw [has_bit0, hpk]; rfl)), (and_nat (pb >>> k : Nat) 1 (by have := Nat.shiftRight_le pb k; omega) (by omega)), trivial⟩ ?_
          exact run_round (by kernel_rfl) (hJ0 (k + 1) (by omega) (by omega))
        | true =>
          have hp4 := of_decide_eq_true hd4
          exfalso
          omega

end Go.Proofs.YtihoackebmnkaaaGreat
