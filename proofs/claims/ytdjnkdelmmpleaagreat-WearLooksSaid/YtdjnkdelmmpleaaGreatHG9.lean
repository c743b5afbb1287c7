/-
  LAW: WearLooks, walked.
-/
import Derived.Test.YtdjnkdelmmpleaaGreatGm
import Derived.Test.YtdjnkdelmmpleaaGreatGi
namespace Go.Proofs.YtdjnkdelmmpleaaGreat
open Go.RowKit Go.Proofs.Tryz

set_option maxRecDepth 100000 in
set_option maxHeartbeats 4000000 in
theorem wearLooks_any (p : Wb) (m : Int) (L : List Int) (la : Option Addr) (lc : Nat) (w : World) (hp : p.In w) (hL : Ins w la L) (hlc : L.length ≤ lc) (hlm : L.length ≤ maxLen) : Calls Tryz.prog 4 #[.agg #[.int .i64 p.ll, .int .i64 p.lh, .int .i64 p.ul, .int .i64 p.uh, .slice p.ea p.es.length p.ec], .int .i64 m, .slice la L.length lc] w (RetB true w) := by
  obtain ⟨Uv, hUv⟩ : ∃ x, inA (untilR p m) = x := ⟨_, rfl⟩
  obtain ⟨Ue, hUe⟩ : ∃ x, erA (untilR p m) = x := ⟨_, rfl⟩
  obtain ⟨Dv, hDv⟩ : ∃ x, inA (dayR p m L) = x := ⟨_, rfl⟩
  obtain ⟨De, hDe⟩ : ∃ x, erA (dayR p m L) = x := ⟨_, rfl⟩
  obtain ⟨Cv, hCv⟩ : ∃ x, inA (clashR p) = x := ⟨_, rfl⟩
  obtain ⟨Ce, hCe⟩ : ∃ x, erA (clashR p) = x := ⟨_, rfl⟩
  refine calls_run (fn := f4) (c := (f4.body).getD .skip) [.agg #[.int .i64 p.ll, .int .i64 p.lh, .int .i64 p.ul, .int .i64 p.uh, .slice p.ea p.es.length p.ec], .int .i64 m, .slice la L.length lc] func4 (by kernel_rfl) (fun _ => False) [] (fun _ h => by cases h) (List.Pairwise.nil) 90 (by kernel_rfl) (by simp) ?_
  refine run_auto [] 2 [] [] [0, 1, 2] [] (st' := ⟨[(0, .agg #[iV p.ll, iV p.lh, iV p.ul, iV p.uh, .slice p.ea p.es.length p.ec]), (1, iV m), (2, .slice la L.length lc)], []⟩) (acc := []) (by kernel_rfl) (by kernel_rfl) trivial ?_
  refine run_new (aO #[iV p.ll, iV p.lh, iV p.ul, iV p.uh, .slice p.ea p.es.length p.ec] 26) (fun b1 => pA b1) (some 3) (fun _ => by kernel_rfl) (fun b1 hb1 => ?_)
  refine run_auto [] 7 [] [0] [1, 2, 3, 6, 19, 20] [0] (st' := ⟨[(1, iV m), (2, .slice la L.length lc), (3, pA b1), (6, .bool false), (19, .agg #[iV p.ll, iV p.lh, iV p.ul, iV p.uh, .slice p.ea p.es.length p.ec]), (20, .slice la L.length lc)], [(b1, aO #[iV p.ll, iV p.lh, iV p.ul, iV p.uh, .slice p.ea p.es.length p.ec] 26)]⟩) (acc := [(pA b1, pA b1)]) (by kernel_rfl) (by kernel_rfl) ⟨rfl, trivial⟩ ?_
  cases hd1 : (farB p L.length) with
  | false =>
    refine run_ret1 12 #[.agg #[iV p.ll, iV p.lh, iV p.ul, iV p.uh, .slice p.ea p.es.length p.ec], .slice la L.length lc] (some 21) (.bool false) (by kernel_rfl) (fun w1 k1 h1 => (by have h := far_any p la L.length lc w1; rw [hd1] at h; exact h)) ?_
    refine run_auto [] 7 [false] [0] [1, 2, 3, 6, 24, 25] [0] (st' := ⟨[(1, iV m), (2, .slice la L.length lc), (3, pA b1), (6, .bool false), (24, .agg #[iV p.ll, iV p.lh, iV p.ul, iV p.uh, .slice p.ea p.es.length p.ec]), (25, iV m)], [(b1, aO #[iV p.ll, iV p.lh, iV p.ul, iV p.uh, .slice p.ea p.es.length p.ec] 26)]⟩) (acc := [(pA b1, pA b1), (.bool false, .bool false)]) (by kernel_rfl) (by kernel_rfl) ⟨rfl, rfl, trivial⟩ ?_
    refine run_ret1 22 #[.agg #[iV p.ll, iV p.lh, iV p.ul, iV p.uh, .slice p.ea p.es.length p.ec], iV m] (some 26) (.tuple #[iV Uv, iV Ue]) (by kernel_rfl) (fun w1 k1 h1 => (by have h := Until_any p m w1 (hp.keep (k1.keeps (fun _ h => h))); rw [hUv, hUe] at h; exact h)) ?_
    refine run_auto [] 10 [] [0] [1, 2, 3, 6, 7, 8, 30, 31] [0] (st' := ⟨[(1, iV m), (2, .slice la L.length lc), (3, pA b1), (6, .bool false), (7, iV Uv), (8, iV Ue), (30, .agg #[iV p.ll, iV p.lh, iV p.ul, iV p.uh, .slice p.ea p.es.length p.ec]), (31, iV m)], [(b1, aO #[iV p.ll, iV p.lh, iV p.ul, iV p.uh, .slice p.ea p.es.length p.ec] 26)]⟩) (acc := [(pA b1, pA b1)]) (by kernel_rfl) (by kernel_rfl) ⟨rfl, trivial⟩ ?_
    refine run_ret1 23 #[.agg #[iV p.ll, iV p.lh, iV p.ul, iV p.uh, .slice p.ea p.es.length p.ec], iV m] (some 32) (.tuple #[iV Uv, iV Ue]) (by kernel_rfl) (fun w1 k1 h1 => (by have h := rUntil_any p m w1 (hp.keep (k1.keeps (fun _ h => h))); rw [hUv, hUe] at h; exact h)) ?_
    refine run_auto [] 11 [] [0] [1, 2, 3, 6, 7, 8, 9, 10, 36, 37, 38] [0] (st' := ⟨[(1, iV m), (2, .slice la L.length lc), (3, pA b1), (6, .bool false), (7, iV Uv), (8, iV Ue), (9, iV Uv), (10, iV Ue), (36, .agg #[iV p.ll, iV p.lh, iV p.ul, iV p.uh, .slice p.ea p.es.length p.ec]), (37, iV m), (38, .slice la L.length lc)], [(b1, aO #[iV p.ll, iV p.lh, iV p.ul, iV p.uh, .slice p.ea p.es.length p.ec] 26)]⟩) (acc := [(pA b1, pA b1)]) (by kernel_rfl) (by kernel_rfl) ⟨rfl, trivial⟩ ?_
    refine run_ret1 24 #[.agg #[iV p.ll, iV p.lh, iV p.ul, iV p.uh, .slice p.ea p.es.length p.ec], iV m, .slice la L.length lc] (some 39) (.tuple #[iV Dv, iV De]) (by kernel_rfl) (fun w1 k1 h1 => (by have h := Day_any p m L la lc w1 (hp.keep (k1.keeps (fun _ h => h))) (hL.keep (k1.keeps (fun _ h => h))) hlc; rw [hDv, hDe] at h; exact h)) ?_
    refine run_auto [] 11 [] [0] [3, 6, 7, 8, 9, 10, 11, 12, 43, 44, 45] [0] (st' := ⟨[(3, pA b1), (6, .bool false), (7, iV Uv), (8, iV Ue), (9, iV Uv), (10, iV Ue), (11, iV Dv), (12, iV De), (43, .agg #[iV p.ll, iV p.lh, iV p.ul, iV p.uh, .slice p.ea p.es.length p.ec]), (44, iV m), (45, .slice la L.length lc)], [(b1, aO #[iV p.ll, iV p.lh, iV p.ul, iV p.uh, .slice p.ea p.es.length p.ec] 26)]⟩) (acc := [(pA b1, pA b1)]) (by kernel_rfl) (by kernel_rfl) ⟨rfl, trivial⟩ ?_
    refine run_ret1 25 #[.agg #[iV p.ll, iV p.lh, iV p.ul, iV p.uh, .slice p.ea p.es.length p.ec], iV m, .slice la L.length lc] (some 46) (.tuple #[iV Dv, iV De]) (by kernel_rfl) (fun w1 k1 h1 => (by have h := rDay_any p m L la lc w1 (hp.keep (k1.keeps (fun _ h => h))) (hL.keep (k1.keeps (fun _ h => h))) hlm; rw [hDv, hDe] at h; exact h)) ?_
    refine run_auto [] 9 [] [0] [3, 6, 7, 8, 9, 10, 11, 12, 13, 14, 50] [0] (st' := ⟨[(3, pA b1), (6, .bool false), (7, iV Uv), (8, iV Ue), (9, iV Uv), (10, iV Ue), (11, iV Dv), (12, iV De), (13, iV Dv), (14, iV De), (50, .agg #[iV p.ll, iV p.lh, iV p.ul, iV p.uh, .slice p.ea p.es.length p.ec])], [(b1, aO #[iV p.ll, iV p.lh, iV p.ul, iV p.uh, .slice p.ea p.es.length p.ec] 26)]⟩) (acc := [(pA b1, pA b1)]) (by kernel_rfl) (by kernel_rfl) ⟨rfl, trivial⟩ ?_
    refine run_ret1 26 #[.agg #[iV p.ll, iV p.lh, iV p.ul, iV p.uh, .slice p.ea p.es.length p.ec]] (some 51) (.tuple #[iV Cv, iV Ce]) (by kernel_rfl) (fun w1 k1 h1 => (by have h := Clash_any p w1 (hp.keep (k1.keeps (fun _ h => h))); rw [hCv, hCe] at h; exact h)) ?_
    refine run_auto [] 9 [] [0] [6, 7, 8, 9, 10, 11, 12, 13, 14, 15, 16, 55] [] (st' := ⟨[(6, .bool false), (7, iV Uv), (8, iV Ue), (9, iV Uv), (10, iV Ue), (11, iV Dv), (12, iV De), (13, iV Dv), (14, iV De), (15, iV Cv), (16, iV Ce), (55, .agg #[iV p.ll, iV p.lh, iV p.ul, iV p.uh, .slice p.ea p.es.length p.ec])], []⟩) (acc := [(pA b1, pA b1)]) (by kernel_rfl) (by kernel_rfl) ⟨rfl, trivial⟩ ?_
    refine run_ret1 27 #[.agg #[iV p.ll, iV p.lh, iV p.ul, iV p.uh, .slice p.ea p.es.length p.ec]] (some 56) (.tuple #[iV Cv, iV Ce]) (by kernel_rfl) (fun w1 k1 h1 => (by have h := rClash_any p w1 (hp.keep (k1.keeps (fun _ h => h))); rw [hCv, hCe] at h; exact h)) ?_
    refine run_auto [(61, .bool true), (65, .bool true), (70, .bool true), (75, .bool true), (80, .bool true), (85, .bool true)] 37 [] [] [6, 87] [] (st' := ⟨[(6, .bool false), (87, .bool true)], []⟩) (acc := [(.bool (Ce == Ce), .bool true), (.bool (Cv == Cv), .bool true), (.bool (De == De), .bool true), (.bool (Dv == Dv), .bool true), (.bool (Ue == Ue), .bool true), (.bool (Uv == Uv), .bool true)]) (by kernel_rfl) (by kernel_rfl) ⟨(bo (by simp)), (bo (by simp)), (bo (by simp)), (bo (by simp)), (bo (by simp)), (bo (by simp)), trivial⟩ ?_
    refine run_ret1 13 #[] (some 88) (.bool true) (by kernel_rfl) (fun w1 k1 h1 => awake_any w1) ?_
    refine run_auto [] 3 [] [] [6] [] (st' := ⟨[(6, .bool true)], []⟩) (acc := []) (by kernel_rfl) (by kernel_rfl) trivial ?_
    refine run_end (fn := f4) rfl (Nat.le_refl _) (by kernel_rfl) [] [.bool true] (e := []) (by kernel_rfl) trivial (fun w1 k1 h1 => ?_)
    exact ⟨rfl, k1.keeps (fun _ h => h)⟩
  | true =>
    refine run_ret1 12 #[.agg #[iV p.ll, iV p.lh, iV p.ul, iV p.uh, .slice p.ea p.es.length p.ec], .slice la L.length lc] (some 21) (.bool true) (by kernel_rfl) (fun w1 k1 h1 => (by have h := far_any p la L.length lc w1; rw [hd1] at h; exact h)) ?_
    refine run_auto [] 4 [true] [] [1, 2, 3, 6] [0] (st' := ⟨[(1, iV m), (2, .slice la L.length lc), (3, pA b1), (6, .bool false)], [(b1, aO #[iV p.ll, iV p.lh, iV p.ul, iV p.uh, .slice p.ea p.es.length p.ec] 26)]⟩) (acc := [(.bool true, .bool true)]) (by kernel_rfl) (by kernel_rfl) ⟨rfl, trivial⟩ ?_
    refine run_ret1 13 #[] (some 22) (.bool true) (by kernel_rfl) (fun w1 k1 h1 => awake_any w1) ?_
    refine run_auto [] 2 [] [] [1, 2, 3, 6] [0] (st' := ⟨[(1, iV m), (2, .slice la L.length lc), (3, pA b1), (6, .bool true)], [(b1, aO #[iV p.ll, iV p.lh, iV p.ul, iV p.uh, .slice p.ea p.es.length p.ec] 26)]⟩) (acc := []) (by kernel_rfl) (by kernel_rfl) trivial ?_
    refine run_end (fn := f4) rfl (Nat.le_refl _) (by kernel_rfl) [] [.bool true] (e := []) (by kernel_rfl) trivial (fun w1 k1 h1 => ?_)
    exact ⟨rfl, k1.keeps (fun _ h => h)⟩

end Go.Proofs.YtdjnkdelmmpleaaGreat
