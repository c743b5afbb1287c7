/-
  PAIR: what is known before anything is read.
  PAIR: the comparators that a pair can have.
  PAIR: the readings as bounds.
  PAIR: a pair as numbers; what is left with a comparator, reading by reading.
  PAIR: the comparators with which there is a truth, one after the other.
  PAIR: whether there is a truth.
-/
import Derived.Test.YthnhcacoegmdfaaGd
import Derived.Test.YthnhcacoegmdfaaGc
import Derived.Test.YthnhcacoegmdfaaGb
namespace Go.Proofs.Ythnhcacoegmdfaa
open Go.RowKit Go.Proofs.Try

set_option maxRecDepth 100000 in
theorem unknown_any  (w : World)  : Calls Try.prog 107 #[] w (Ret (.agg (gc (Gp.free 5 20)).toArray) w) := by
  refine calls_run (fn := f107) (c := (f107.body).getD .skip) [] func107 (by kernel_rfl) (fun _ => False) [] (fun _ h => by cases h) (List.Pairwise.nil) 26 (by kernel_rfl) (by simp) ?_
  refine run_auto [] 2 [] [] [] [] (st' := ⟨[], []⟩) (acc := []) (by kernel_rfl) (by kernel_rfl) trivial ?_
  refine run_new (aO #[iV 0, iV 0, iV 0, iV 0, iV 0, iV 0, iV 0, iV 0, iV 0, iV 0, iV 0, iV 0, iV 0, iV 0, iV 0, iV 0, iV 0, iV 0, iV 0, iV 0, iV 0, iV 0, iV 0, iV 0, iV 0, iV 0, iV 0, iV 0, iV 0, iV 0, iV 0, iV 0, iV 0, iV 0, iV 0, iV 0] 70) (fun b1 => pA b1) (some 0) (fun _ => by kernel_rfl) (fun b1 hb1 => ?_)
  refine run_auto [] 3 [] [] [0] [0] (st' := ⟨[(0, pA b1)], [(b1, aO #[iV 0, iV 0, iV 0, iV 0, iV 0, iV 0, iV 0, iV 0, iV 0, iV 0, iV 0, iV 0, iV 0, iV 0, iV 0, iV 0, iV 0, iV 0, iV 0, iV 0, iV 0, iV 0, iV 0, iV 0, iV 0, iV 0, iV 0, iV 0, iV 0, iV 0, iV 0, iV 0, iV 0, iV 0, iV 0, iV 0] 70)]⟩) (acc := []) (by kernel_rfl) (by kernel_rfl) trivial ?_
  refine run_new (aO #[iV 0, iV 0, iV 0, iV 0, iV 0, iV 0, iV 0, iV 0, iV 0, iV 0, iV 0, iV 0, iV 0, iV 0, iV 0, iV 0, iV 0, iV 0, iV 0, iV 0, iV 0, iV 0, iV 0, iV 0, iV 0, iV 0, iV 0, iV 0, iV 0, iV 0, iV 0, iV 0, iV 0, iV 0, iV 0, iV 0] 70) (fun b2 => pA b2) (some 1) (fun _ => by kernel_rfl) (fun b2 hb2 => ?_)
  refine run_auto [] 7 [] [] [0, 1, 4] [0, 1] (st' := ⟨[(0, pA b1), (1, pA b2), (4, iV 0)], [(b2, aO #[iV 0, iV 0, iV 0, iV 0, iV 0, iV 0, iV 0, iV 0, iV 0, iV 0, iV 0, iV 0, iV 0, iV 0, iV 0, iV 0, iV 0, iV 0, iV 0, iV 0, iV 0, iV 0, iV 0, iV 0, iV 0, iV 0, iV 0, iV 0, iV 0, iV 0, iV 0, iV 0, iV 0, iV 0, iV 0, iV 0] 70), (b1, aO #[iV 0, iV 0, iV 0, iV 0, iV 0, iV 0, iV 0, iV 0, iV 0, iV 0, iV 0, iV 0, iV 0, iV 0, iV 0, iV 0, iV 0, iV 0, iV 0, iV 0, iV 0, iV 0, iV 0, iV 0, iV 0, iV 0, iV 0, iV 0, iV 0, iV 0, iV 0, iV 0, iV 0, iV 0, iV 0, iV 0] 70)]⟩) (acc := []) (by kernel_rfl) (by kernel_rfl) trivial ?_
  refine run_once (by kernel_rfl) (fun J0 hJ0 => ?_)
  refine run_auto [(5, .bool true)] 30 [true] [0, 0] [0, 1, 4, 5, 6, 2, 7, 8, 9, 10, 11, 12, 13] [0, 1] (st' := ⟨[(0, pA b1), (1, pA b2), (4, iV 0), (5, .bool true), (6, iV 0), (2, iV 0), (7, iV 0), (8, iV 0), (9, pA b2), (10, .pointer (some ⟨b2, 5, none⟩)), (11, .pointer (some ⟨b2, 30, none⟩)), (12, .pointer (some ⟨b2, 30, none⟩)), (13, iV 0)], [(b2, aO #[iV 0, iV 0, iV 0, iV 0, iV 0, iV 20, iV 0, iV 0, iV 0, iV 0, iV 0, iV 0, iV 0, iV 0, iV 0, iV 0, iV 0, iV 0, iV 0, iV 0, iV 0, iV 0, iV 0, iV 0, iV 0, iV 0, iV 0, iV 0, iV 0, iV 0, iV 20, iV 0, iV 0, iV 0, iV 0, iV 0] 70), (b1, aO #[iV 0, iV 0, iV 0, iV 0, iV 0, iV 0, iV 0, iV 0, iV 0, iV 0, iV 0, iV 0, iV 0, iV 0, iV 0, iV 0, iV 0, iV 0, iV 0, iV 0, iV 0, iV 0, iV 0, iV 0, iV 0, iV 0, iV 0, iV 0, iV 0, iV 0, iV 0, iV 0, iV 0, iV 0, iV 0, iV 0] 70)]⟩) (acc := [(pA b2, pA b2), (pA b2, pA b2), (.bool true, .bool true), (.bool true, .bool true)]) (by kernel_rfl) (by kernel_rfl) ⟨rfl, rfl, rfl, rfl, trivial⟩ ?_
  refine run_once (by kernel_rfl) (fun J1 hJ1 => ?_)
  refine run_auto [(14, .bool true), (18, .bool false), (23, iV 1)] 27 [true, false] [] [0, 1, 4, 5, 6, 2, 7, 8, 9, 10, 11, 12, 13, 14, 15, 3, 16, 17, 18, 23] [0, 1] (st' := ⟨[(0, pA b1), (1, pA b2), (4, iV 0), (5, .bool true), (6, iV 0), (2, iV 0), (7, iV 0), (8, iV 0), (9, pA b2), (10, .pointer (some ⟨b2, 5, none⟩)), (11, .pointer (some ⟨b2, 30, none⟩)), (12, .pointer (some ⟨b2, 30, none⟩)), (13, iV 1), (14, .bool true), (15, iV 0), (3, iV 0), (16, iV 0), (17, iV 0), (18, .bool false), (23, iV 1)], [(b2, aO #[iV 0, iV 0, iV 0, iV 0, iV 0, iV 20, iV 0, iV 0, iV 0, iV 0, iV 0, iV 0, iV 0, iV 0, iV 0, iV 0, iV 0, iV 0, iV 0, iV 0, iV 0, iV 0, iV 0, iV 0, iV 0, iV 0, iV 0, iV 0, iV 0, iV 0, iV 20, iV 0, iV 0, iV 0, iV 0, iV 0] 70), (b1, aO #[iV 0, iV 0, iV 0, iV 0, iV 0, iV 0, iV 0, iV 0, iV 0, iV 0, iV 0, iV 0, iV 0, iV 0, iV 0, iV 0, iV 0, iV 0, iV 0, iV 0, iV 0, iV 0, iV 0, iV 0, iV 0, iV 0, iV 0, iV 0, iV 0, iV 0, iV 0, iV 0, iV 0, iV 0, iV 0, iV 0] 70)]⟩) (acc := [(iV 1, iV 1), (.bool false, .bool false), (.bool false, .bool false), (.bool true, .bool true), (.bool true, .bool true)]) (by kernel_rfl) (by kernel_rfl) ⟨rfl, rfl, rfl, rfl, rfl, trivial⟩ ?_
  refine run_round (by kernel_rfl) (hJ1 _ ?_)
  refine run_auto [(14, .bool true), (18, .bool true), (23, iV 2)] 33 [true, true] [0] [0, 1, 4, 5, 6, 2, 7, 8, 9, 10, 11, 12, 13, 14, 15, 3, 16, 17, 18, 23, 19, 20, 21, 22] [0, 1] (st' := ⟨[(0, pA b1), (1, pA b2), (4, iV 0), (5, .bool true), (6, iV 0), (2, iV 0), (7, iV 0), (8, iV 0), (9, pA b2), (10, .pointer (some ⟨b2, 5, none⟩)), (11, .pointer (some ⟨b2, 30, none⟩)), (12, .pointer (some ⟨b2, 30, none⟩)), (13, iV 2), (14, .bool true), (15, iV 1), (3, iV 1), (16, iV 0), (17, iV 1), (18, .bool true), (23, iV 2), (19, iV 0), (20, iV 1), (21, pA b2), (22, .pointer (some ⟨b2, 1, none⟩))], [(b2, aO #[iV 0, iV 40, iV 0, iV 0, iV 0, iV 20, iV 0, iV 0, iV 0, iV 0, iV 0, iV 0, iV 0, iV 0, iV 0, iV 0, iV 0, iV 0, iV 0, iV 0, iV 0, iV 0, iV 0, iV 0, iV 0, iV 0, iV 0, iV 0, iV 0, iV 0, iV 20, iV 0, iV 0, iV 0, iV 0, iV 0] 70), (b1, aO #[iV 0, iV 0, iV 0, iV 0, iV 0, iV 0, iV 0, iV 0, iV 0, iV 0, iV 0, iV 0, iV 0, iV 0, iV 0, iV 0, iV 0, iV 0, iV 0, iV 0, iV 0, iV 0, iV 0, iV 0, iV 0, iV 0, iV 0, iV 0, iV 0, iV 0, iV 0, iV 0, iV 0, iV 0, iV 0, iV 0] 70)]⟩) (acc := [(iV 2, iV 2), (pA b2, pA b2), (.bool true, .bool true), (.bool true, .bool true), (.bool true, .bool true), (.bool true, .bool true)]) (by kernel_rfl) (by kernel_rfl) ⟨rfl, rfl, rfl, rfl, rfl, rfl, trivial⟩ ?_
  refine run_round (by kernel_rfl) (hJ1 _ ?_)
  refine run_auto [(14, .bool true), (18, .bool true), (23, iV 3)] 33 [true, true] [0] [0, 1, 4, 5, 6, 2, 7, 8, 9, 10, 11, 12, 13, 14, 15, 3, 16, 17, 18, 23, 19, 20, 21, 22] [0, 1] (st' := ⟨[(0, pA b1), (1, pA b2), (4, iV 0), (5, .bool true), (6, iV 0), (2, iV 0), (7, iV 0), (8, iV 0), (9, pA b2), (10, .pointer (some ⟨b2, 5, none⟩)), (11, .pointer (some ⟨b2, 30, none⟩)), (12, .pointer (some ⟨b2, 30, none⟩)), (13, iV 3), (14, .bool true), (15, iV 2), (3, iV 2), (16, iV 0), (17, iV 2), (18, .bool true), (23, iV 3), (19, iV 0), (20, iV 2), (21, pA b2), (22, .pointer (some ⟨b2, 2, none⟩))], [(b2, aO #[iV 0, iV 40, iV 40, iV 0, iV 0, iV 20, iV 0, iV 0, iV 0, iV 0, iV 0, iV 0, iV 0, iV 0, iV 0, iV 0, iV 0, iV 0, iV 0, iV 0, iV 0, iV 0, iV 0, iV 0, iV 0, iV 0, iV 0, iV 0, iV 0, iV 0, iV 20, iV 0, iV 0, iV 0, iV 0, iV 0] 70), (b1, aO #[iV 0, iV 0, iV 0, iV 0, iV 0, iV 0, iV 0, iV 0, iV 0, iV 0, iV 0, iV 0, iV 0, iV 0, iV 0, iV 0, iV 0, iV 0, iV 0, iV 0, iV 0, iV 0, iV 0, iV 0, iV 0, iV 0, iV 0, iV 0, iV 0, iV 0, iV 0, iV 0, iV 0, iV 0, iV 0, iV 0] 70)]⟩) (acc := [(iV 3, iV 3), (pA b2, pA b2), (.bool true, .bool true), (.bool true, .bool true), (.bool true, .bool true), (.bool true, .bool true)]) (by kernel_rfl) (by kernel_rfl) ⟨rfl, rfl, rfl, rfl, rfl, rfl, trivial⟩ ?_
  refine run_round (by kernel_rfl) (hJ1 _ ?_)
  refine run_auto [(14, .bool true), (18, .bool true), (23, iV 4)] 33 [true, true] [0] [0, 1, 4, 5, 6, 2, 7, 8, 9, 10, 11, 12, 13, 14, 15, 3, 16, 17, 18, 23, 19, 20, 21, 22] [0, 1] (st' := ⟨[(0, pA b1), (1, pA b2), (4, iV 0), (5, .bool true), (6, iV 0), (2, iV 0), (7, iV 0), (8, iV 0), (9, pA b2), (10, .pointer (some ⟨b2, 5, none⟩)), (11, .pointer (some ⟨b2, 30, none⟩)), (12, .pointer (some ⟨b2, 30, none⟩)), (13, iV 4), (14, .bool true), (15, iV 3), (3, iV 3), (16, iV 0), (17, iV 3), (18, .bool true), (23, iV 4), (19, iV 0), (20, iV 3), (21, pA b2), (22, .pointer (some ⟨b2, 3, none⟩))], [(b2, aO #[iV 0, iV 40, iV 40, iV 40, iV 0, iV 20, iV 0, iV 0, iV 0, iV 0, iV 0, iV 0, iV 0, iV 0, iV 0, iV 0, iV 0, iV 0, iV 0, iV 0, iV 0, iV 0, iV 0, iV 0, iV 0, iV 0, iV 0, iV 0, iV 0, iV 0, iV 20, iV 0, iV 0, iV 0, iV 0, iV 0] 70), (b1, aO #[iV 0, iV 0, iV 0, iV 0, iV 0, iV 0, iV 0, iV 0, iV 0, iV 0, iV 0, iV 0, iV 0, iV 0, iV 0, iV 0, iV 0, iV 0, iV 0, iV 0, iV 0, iV 0, iV 0, iV 0, iV 0, iV 0, iV 0, iV 0, iV 0, iV 0, iV 0, iV 0, iV 0, iV 0, iV 0, iV 0] 70)]⟩) (acc := [(iV 4, iV 4), (pA b2, pA b2), (.bool true, .bool true), (.bool true, .bool true), (.bool true, .bool true), (.bool true, .bool true)]) (by kernel_rfl) (by kernel_rfl) ⟨rfl, rfl, rfl, rfl, rfl, rfl, trivial⟩ ?_
  refine run_round (by kernel_rfl) (hJ1 _ ?_)
  refine run_auto [(14, .bool true), (18, .bool true), (23, iV 5)] 33 [true, true] [0] [0, 1, 4, 5, 6, 2, 7, 8, 9, 10, 11, 12, 13, 14, 15, 3, 16, 17, 18, 23, 19, 20, 21, 22] [0, 1] (st' := ⟨[(0, pA b1), (1, pA b2), (4, iV 0), (5, .bool true), (6, iV 0), (2, iV 0), (7, iV 0), (8, iV 0), (9, pA b2), (10, .pointer (some ⟨b2, 5, none⟩)), (11, .pointer (some ⟨b2, 30, none⟩)), (12, .pointer (some ⟨b2, 30, none⟩)), (13, iV 5), (14, .bool true), (15, iV 4), (3, iV 4), (16, iV 0), (17, iV 4), (18, .bool true), (23, iV 5), (19, iV 0), (20, iV 4), (21, pA b2), (22, .pointer (some ⟨b2, 4, none⟩))], [(b2, aO #[iV 0, iV 40, iV 40, iV 40, iV 40, iV 20, iV 0, iV 0, iV 0, iV 0, iV 0, iV 0, iV 0, iV 0, iV 0, iV 0, iV 0, iV 0, iV 0, iV 0, iV 0, iV 0, iV 0, iV 0, iV 0, iV 0, iV 0, iV 0, iV 0, iV 0, iV 20, iV 0, iV 0, iV 0, iV 0, iV 0] 70), (b1, aO #[iV 0, iV 0, iV 0, iV 0, iV 0, iV 0, iV 0, iV 0, iV 0, iV 0, iV 0, iV 0, iV 0, iV 0, iV 0, iV 0, iV 0, iV 0, iV 0, iV 0, iV 0, iV 0, iV 0, iV 0, iV 0, iV 0, iV 0, iV 0, iV 0, iV 0, iV 0, iV 0, iV 0, iV 0, iV 0, iV 0] 70)]⟩) (acc := [(iV 5, iV 5), (pA b2, pA b2), (.bool true, .bool true), (.bool true, .bool true), (.bool true, .bool true), (.bool true, .bool true)]) (by kernel_rfl) (by kernel_rfl) ⟨rfl, rfl, rfl, rfl, rfl, rfl, trivial⟩ ?_
  refine run_round (by kernel_rfl) (hJ1 _ ?_)
  refine run_auto [(14, .bool false), (24, iV 1)] 12 [false] [] [0, 1, 4, 5, 6, 2, 7, 8, 9, 10, 11, 12, 13, 14, 15, 3, 16, 17, 18, 23, 19, 20, 21, 22, 24] [0, 1] (st' := ⟨[(0, pA b1), (1, pA b2), (4, iV 1), (5, .bool true), (6, iV 0), (2, iV 0), (7, iV 0), (8, iV 0), (9, pA b2), (10, .pointer (some ⟨b2, 5, none⟩)), (11, .pointer (some ⟨b2, 30, none⟩)), (12, .pointer (some ⟨b2, 30, none⟩)), (13, iV 5), (14, .bool false), (15, iV 4), (3, iV 4), (16, iV 0), (17, iV 4), (18, .bool true), (23, iV 5), (19, iV 0), (20, iV 4), (21, pA b2), (22, .pointer (some ⟨b2, 4, none⟩)), (24, iV 1)], [(b2, aO #[iV 0, iV 40, iV 40, iV 40, iV 40, iV 20, iV 0, iV 0, iV 0, iV 0, iV 0, iV 0, iV 0, iV 0, iV 0, iV 0, iV 0, iV 0, iV 0, iV 0, iV 0, iV 0, iV 0, iV 0, iV 0, iV 0, iV 0, iV 0, iV 0, iV 0, iV 20, iV 0, iV 0, iV 0, iV 0, iV 0] 70), (b1, aO #[iV 0, iV 0, iV 0, iV 0, iV 0, iV 0, iV 0, iV 0, iV 0, iV 0, iV 0, iV 0, iV 0, iV 0, iV 0, iV 0, iV 0, iV 0, iV 0, iV 0, iV 0, iV 0, iV 0, iV 0, iV 0, iV 0, iV 0, iV 0, iV 0, iV 0, iV 0, iV 0, iV 0, iV 0, iV 0, iV 0] 70)]⟩) (acc := [(iV 1, iV 1), (.bool false, .bool false), (.bool false, .bool false)]) (by kernel_rfl) (by kernel_rfl) ⟨rfl, rfl, rfl, trivial⟩ ?_
  refine run_round (by kernel_rfl) (hJ0 _ ?_)
  refine run_auto [(5, .bool true)] 30 [true] [0, 0] [0, 1, 4, 5, 6, 2, 7, 8, 9, 10, 11, 12, 13, 14, 15, 3, 16, 17, 18, 23, 19, 20, 21, 22, 24] [0, 1] (st' := ⟨[(0, pA b1), (1, pA b2), (4, iV 1), (5, .bool true), (6, iV 1), (2, iV 1), (7, iV 1), (8, iV 1), (9, .pointer (some ⟨b2, 6, none⟩)), (10, .pointer (some ⟨b2, 11, none⟩)), (11, .pointer (some ⟨b2, 30, none⟩)), (12, .pointer (some ⟨b2, 31, none⟩)), (13, iV 0), (14, .bool false), (15, iV 4), (3, iV 4), (16, iV 0), (17, iV 4), (18, .bool true), (23, iV 5), (19, iV 0), (20, iV 4), (21, pA b2), (22, .pointer (some ⟨b2, 4, none⟩)), (24, iV 1)], [(b2, aO #[iV 0, iV 40, iV 40, iV 40, iV 40, iV 20, iV 0, iV 0, iV 0, iV 0, iV 0, iV 20, iV 0, iV 0, iV 0, iV 0, iV 0, iV 0, iV 0, iV 0, iV 0, iV 0, iV 0, iV 0, iV 0, iV 0, iV 0, iV 0, iV 0, iV 0, iV 20, iV 20, iV 0, iV 0, iV 0, iV 0] 70), (b1, aO #[iV 0, iV 0, iV 0, iV 0, iV 0, iV 0, iV 0, iV 0, iV 0, iV 0, iV 0, iV 0, iV 0, iV 0, iV 0, iV 0, iV 0, iV 0, iV 0, iV 0, iV 0, iV 0, iV 0, iV 0, iV 0, iV 0, iV 0, iV 0, iV 0, iV 0, iV 0, iV 0, iV 0, iV 0, iV 0, iV 0] 70)]⟩) (acc := [(pA b2, pA b2), (pA b2, pA b2), (.bool true, .bool true), (.bool true, .bool true)]) (by kernel_rfl) (by kernel_rfl) ⟨rfl, rfl, rfl, rfl, trivial⟩ ?_
  refine run_once (by kernel_rfl) (fun J1 hJ1 => ?_)
  refine run_auto [(14, .bool true), (18, .bool true), (23, iV 1)] 33 [true, true] [0] [0, 1, 4, 5, 6, 2, 7, 8, 9, 10, 11, 12, 13, 14, 15, 3, 16, 17, 18, 23, 19, 20, 21, 22, 24] [0, 1] (st' := ⟨[(0, pA b1), (1, pA b2), (4, iV 1), (5, .bool true), (6, iV 1), (2, iV 1), (7, iV 1), (8, iV 1), (9, .pointer (some ⟨b2, 6, none⟩)), (10, .pointer (some ⟨b2, 11, none⟩)), (11, .pointer (some ⟨b2, 30, none⟩)), (12, .pointer (some ⟨b2, 31, none⟩)), (13, iV 1), (14, .bool true), (15, iV 0), (3, iV 0), (16, iV 1), (17, iV 0), (18, .bool true), (23, iV 1), (19, iV 1), (20, iV 0), (21, .pointer (some ⟨b2, 6, none⟩)), (22, .pointer (some ⟨b2, 6, none⟩)), (24, iV 1)], [(b2, aO #[iV 0, iV 40, iV 40, iV 40, iV 40, iV 20, iV 40, iV 0, iV 0, iV 0, iV 0, iV 20, iV 0, iV 0, iV 0, iV 0, iV 0, iV 0, iV 0, iV 0, iV 0, iV 0, iV 0, iV 0, iV 0, iV 0, iV 0, iV 0, iV 0, iV 0, iV 20, iV 20, iV 0, iV 0, iV 0, iV 0] 70), (b1, aO #[iV 0, iV 0, iV 0, iV 0, iV 0, iV 0, iV 0, iV 0, iV 0, iV 0, iV 0, iV 0, iV 0, iV 0, iV 0, iV 0, iV 0, iV 0, iV 0, iV 0, iV 0, iV 0, iV 0, iV 0, iV 0, iV 0, iV 0, iV 0, iV 0, iV 0, iV 0, iV 0, iV 0, iV 0, iV 0, iV 0] 70)]⟩) (acc := [(iV 1, iV 1), (pA b2, pA b2), (.bool true, .bool true), (.bool true, .bool true), (.bool true, .bool true), (.bool true, .bool true)]) (by kernel_rfl) (by kernel_rfl) ⟨rfl, rfl, rfl, rfl, rfl, rfl, trivial⟩ ?_
  refine run_round (by kernel_rfl) (hJ1 _ ?_)
  refine run_auto [(14, .bool true), (18, .bool false), (23, iV 2)] 27 [true, false] [] [0, 1, 4, 5, 6, 2, 7, 8, 9, 10, 11, 12, 13, 14, 15, 3, 16, 17, 18, 23, 19, 20, 21, 22, 24] [0, 1] (st' := ⟨[(0, pA b1), (1, pA b2), (4, iV 1), (5, .bool true), (6, iV 1), (2, iV 1), (7, iV 1), (8, iV 1), (9, .pointer (some ⟨b2, 6, none⟩)), (10, .pointer (some ⟨b2, 11, none⟩)), (11, .pointer (some ⟨b2, 30, none⟩)), (12, .pointer (some ⟨b2, 31, none⟩)), (13, iV 2), (14, .bool true), (15, iV 1), (3, iV 1), (16, iV 1), (17, iV 1), (18, .bool false), (23, iV 2), (19, iV 1), (20, iV 0), (21, .pointer (some ⟨b2, 6, none⟩)), (22, .pointer (some ⟨b2, 6, none⟩)), (24, iV 1)], [(b2, aO #[iV 0, iV 40, iV 40, iV 40, iV 40, iV 20, iV 40, iV 0, iV 0, iV 0, iV 0, iV 20, iV 0, iV 0, iV 0, iV 0, iV 0, iV 0, iV 0, iV 0, iV 0, iV 0, iV 0, iV 0, iV 0, iV 0, iV 0, iV 0, iV 0, iV 0, iV 20, iV 20, iV 0, iV 0, iV 0, iV 0] 70), (b1, aO #[iV 0, iV 0, iV 0, iV 0, iV 0, iV 0, iV 0, iV 0, iV 0, iV 0, iV 0, iV 0, iV 0, iV 0, iV 0, iV 0, iV 0, iV 0, iV 0, iV 0, iV 0, iV 0, iV 0, iV 0, iV 0, iV 0, iV 0, iV 0, iV 0, iV 0, iV 0, iV 0, iV 0, iV 0, iV 0, iV 0] 70)]⟩) (acc := [(iV 2, iV 2), (.bool false, .bool false), (.bool false, .bool false), (.bool true, .bool true), (.bool true, .bool true)]) (by kernel_rfl) (by kernel_rfl) ⟨rfl, rfl, rfl, rfl, rfl, trivial⟩ ?_
  refine run_round (by kernel_rfl) (hJ1 _ ?_)
  refine run_auto [(14, .bool true), (18, .bool true), (23, iV 3)] 33 [true, true] [0] [0, 1, 4, 5, 6, 2, 7, 8, 9, 10, 11, 12, 13, 14, 15, 3, 16, 17, 18, 23, 19, 20, 21, 22, 24] [0, 1] (st' := ⟨[(0, pA b1), (1, pA b2), (4, iV 1), (5, .bool true), (6, iV 1), (2, iV 1), (7, iV 1), (8, iV 1), (9, .pointer (some ⟨b2, 6, none⟩)), (10, .pointer (some ⟨b2, 11, none⟩)), (11, .pointer (some ⟨b2, 30, none⟩)), (12, .pointer (some ⟨b2, 31, none⟩)), (13, iV 3), (14, .bool true), (15, iV 2), (3, iV 2), (16, iV 1), (17, iV 2), (18, .bool true), (23, iV 3), (19, iV 1), (20, iV 2), (21, .pointer (some ⟨b2, 6, none⟩)), (22, .pointer (some ⟨b2, 8, none⟩)), (24, iV 1)], [(b2, aO #[iV 0, iV 40, iV 40, iV 40, iV 40, iV 20, iV 40, iV 0, iV 40, iV 0, iV 0, iV 20, iV 0, iV 0, iV 0, iV 0, iV 0, iV 0, iV 0, iV 0, iV 0, iV 0, iV 0, iV 0, iV 0, iV 0, iV 0, iV 0, iV 0, iV 0, iV 20, iV 20, iV 0, iV 0, iV 0, iV 0] 70), (b1, aO #[iV 0, iV 0, iV 0, iV 0, iV 0, iV 0, iV 0, iV 0, iV 0, iV 0, iV 0, iV 0, iV 0, iV 0, iV 0, iV 0, iV 0, iV 0, iV 0, iV 0, iV 0, iV 0, iV 0, iV 0, iV 0, iV 0, iV 0, iV 0, iV 0, iV 0, iV 0, iV 0, iV 0, iV 0, iV 0, iV 0] 70)]⟩) (acc := [(iV 3, iV 3), (pA b2, pA b2), (.bool true, .bool true), (.bool true, .bool true), (.bool true, .bool true), (.bool true, .bool true)]) (by kernel_rfl) (by kernel_rfl) ⟨rfl, rfl, rfl, rfl, rfl, rfl, trivial⟩ ?_
  refine run_round (by kernel_rfl) (hJ1 _ ?_)
  refine run_auto [(14, .bool true), (18, .bool true), (23, iV 4)] 33 [true, true] [0] [0, 1, 4, 5, 6, 2, 7, 8, 9, 10, 11, 12, 13, 14, 15, 3, 16, 17, 18, 23, 19, 20, 21, 22, 24] [0, 1] (st' := ⟨[(0, pA b1), (1, pA b2), (4, iV 1), (5, .bool true), (6, iV 1), (2, iV 1), (7, iV 1), (8, iV 1), (9, .pointer (some ⟨b2, 6, none⟩)), (10, .pointer (some ⟨b2, 11, none⟩)), (11, .pointer (some ⟨b2, 30, none⟩)), (12, .pointer (some ⟨b2, 31, none⟩)), (13, iV 4), (14, .bool true), (15, iV 3), (3, iV 3), (16, iV 1), (17, iV 3), (18, .bool true), (23, iV 4), (19, iV 1), (20, iV 3), (21, .pointer (some ⟨b2, 6, none⟩)), (22, .pointer (some ⟨b2, 9, none⟩)), (24, iV 1)], [(b2, aO #[iV 0, iV 40, iV 40, iV 40, iV 40, iV 20, iV 40, iV 0, iV 40, iV 40, iV 0, iV 20, iV 0, iV 0, iV 0, iV 0, iV 0, iV 0, iV 0, iV 0, iV 0, iV 0, iV 0, iV 0, iV 0, iV 0, iV 0, iV 0, iV 0, iV 0, iV 20, iV 20, iV 0, iV 0, iV 0, iV 0] 70), (b1, aO #[iV 0, iV 0, iV 0, iV 0, iV 0, iV 0, iV 0, iV 0, iV 0, iV 0, iV 0, iV 0, iV 0, iV 0, iV 0, iV 0, iV 0, iV 0, iV 0, iV 0, iV 0, iV 0, iV 0, iV 0, iV 0, iV 0, iV 0, iV 0, iV 0, iV 0, iV 0, iV 0, iV 0, iV 0, iV 0, iV 0] 70)]⟩) (acc := [(iV 4, iV 4), (pA b2, pA b2), (.bool true, .bool true), (.bool true, .bool true), (.bool true, .bool true), (.bool true, .bool true)]) (by kernel_rfl) (by kernel_rfl) ⟨rfl, rfl, rfl, rfl, rfl, rfl, trivial⟩ ?_
  refine run_round (by kernel_rfl) (hJ1 _ ?_)
  refine run_auto [(14, .bool true), (18, .bool true), (23, iV 5)] 33 [true, true] [0] [0, 1, 4, 5, 6, 2, 7, 8, 9, 10, 11, 12, 13, 14, 15, 3, 16, 17, 18, 23, 19, 20, 21, 22, 24] [0, 1] (st' := ⟨[(0, pA b1), (1, pA b2), (4, iV 1), (5, .bool true), (6, iV 1), (2, iV 1), (7, iV 1), (8, iV 1), (9, .pointer (some ⟨b2, 6, none⟩)), (10, .pointer (some ⟨b2, 11, none⟩)), (11, .pointer (some ⟨b2, 30, none⟩)), (12, .pointer (some ⟨b2, 31, none⟩)), (13, iV 5), (14, .bool true), (15, iV 4), (3, iV 4), (16, iV 1), (17, iV 4), (18, .bool true), (23, iV 5), (19, iV 1), (20, iV 4), (21, .pointer (some ⟨b2, 6, none⟩)), (22, .pointer (some ⟨b2, 10, none⟩)), (24, iV 1)], [(b2, aO #[iV 0, iV 40, iV 40, iV 40, iV 40, iV 20, iV 40, iV 0, iV 40, iV 40, iV 40, iV 20, iV 0, iV 0, iV 0, iV 0, iV 0, iV 0, iV 0, iV 0, iV 0, iV 0, iV 0, iV 0, iV 0, iV 0, iV 0, iV 0, iV 0, iV 0, iV 20, iV 20, iV 0, iV 0, iV 0, iV 0] 70), (b1, aO #[iV 0, iV 0, iV 0, iV 0, iV 0, iV 0, iV 0, iV 0, iV 0, iV 0, iV 0, iV 0, iV 0, iV 0, iV 0, iV 0, iV 0, iV 0, iV 0, iV 0, iV 0, iV 0, iV 0, iV 0, iV 0, iV 0, iV 0, iV 0, iV 0, iV 0, iV 0, iV 0, iV 0, iV 0, iV 0, iV 0] 70)]⟩) (acc := [(iV 5, iV 5), (pA b2, pA b2), (.bool true, .bool true), (.bool true, .bool true), (.bool true, .bool true), (.bool true, .bool true)]) (by kernel_rfl) (by kernel_rfl) ⟨rfl, rfl, rfl, rfl, rfl, rfl, trivial⟩ ?_
  refine run_round (by kernel_rfl) (hJ1 _ ?_)
  refine run_auto [(14, .bool false), (24, iV 2)] 12 [false] [] [0, 1, 4, 5, 6, 2, 7, 8, 9, 10, 11, 12, 13, 14, 15, 3, 16, 17, 18, 23, 19, 20, 21, 22, 24] [0, 1] (st' := ⟨[(0, pA b1), (1, pA b2), (4, iV 2), (5, .bool true), (6, iV 1), (2, iV 1), (7, iV 1), (8, iV 1), (9, .pointer (some ⟨b2, 6, none⟩)), (10, .pointer (some ⟨b2, 11, none⟩)), (11, .pointer (some ⟨b2, 30, none⟩)), (12, .pointer (some ⟨b2, 31, none⟩)), (13, iV 5), (14, .bool false), (15, iV 4), (3, iV 4), (16, iV 1), (17, iV 4), (18, .bool true), (23, iV 5), (19, iV 1), (20, iV 4), (21, .pointer (some ⟨b2, 6, none⟩)), (22, .pointer (some ⟨b2, 10, none⟩)), (24, iV 2)], [(b2, aO #[iV 0, iV 40, iV 40, iV 40, iV 40, iV 20, iV 40, iV 0, iV 40, iV 40, iV 40, iV 20, iV 0, iV 0, iV 0, iV 0, iV 0, iV 0, iV 0, iV 0, iV 0, iV 0, iV 0, iV 0, iV 0, iV 0, iV 0, iV 0, iV 0, iV 0, iV 20, iV 20, iV 0, iV 0, iV 0, iV 0] 70), (b1, aO #[iV 0, iV 0, iV 0, iV 0, iV 0, iV 0, iV 0, iV 0, iV 0, iV 0, iV 0, iV 0, iV 0, iV 0, iV 0, iV 0, iV 0, iV 0, iV 0, iV 0, iV 0, iV 0, iV 0, iV 0, iV 0, iV 0, iV 0, iV 0, iV 0, iV 0, iV 0, iV 0, iV 0, iV 0, iV 0, iV 0] 70)]⟩) (acc := [(iV 2, iV 2), (.bool false, .bool false), (.bool false, .bool false)]) (by kernel_rfl) (by kernel_rfl) ⟨rfl, rfl, rfl, trivial⟩ ?_
  refine run_round (by kernel_rfl) (hJ0 _ ?_)
  refine run_auto [(5, .bool true)] 30 [true] [0, 0] [0, 1, 4, 5, 6, 2, 7, 8, 9, 10, 11, 12, 13, 14, 15, 3, 16, 17, 18, 23, 19, 20, 21, 22, 24] [0, 1] (st' := ⟨[(0, pA b1), (1, pA b2), (4, iV 2), (5, .bool true), (6, iV 2), (2, iV 2), (7, iV 2), (8, iV 2), (9, .pointer (some ⟨b2, 12, none⟩)), (10, .pointer (some ⟨b2, 17, none⟩)), (11, .pointer (some ⟨b2, 30, none⟩)), (12, .pointer (some ⟨b2, 32, none⟩)), (13, iV 0), (14, .bool false), (15, iV 4), (3, iV 4), (16, iV 1), (17, iV 4), (18, .bool true), (23, iV 5), (19, iV 1), (20, iV 4), (21, .pointer (some ⟨b2, 6, none⟩)), (22, .pointer (some ⟨b2, 10, none⟩)), (24, iV 2)], [(b2, aO #[iV 0, iV 40, iV 40, iV 40, iV 40, iV 20, iV 40, iV 0, iV 40, iV 40, iV 40, iV 20, iV 0, iV 0, iV 0, iV 0, iV 0, iV 20, iV 0, iV 0, iV 0, iV 0, iV 0, iV 0, iV 0, iV 0, iV 0, iV 0, iV 0, iV 0, iV 20, iV 20, iV 20, iV 0, iV 0, iV 0] 70), (b1, aO #[iV 0, iV 0, iV 0, iV 0, iV 0, iV 0, iV 0, iV 0, iV 0, iV 0, iV 0, iV 0, iV 0, iV 0, iV 0, iV 0, iV 0, iV 0, iV 0, iV 0, iV 0, iV 0, iV 0, iV 0, iV 0, iV 0, iV 0, iV 0, iV 0, iV 0, iV 0, iV 0, iV 0, iV 0, iV 0, iV 0] 70)]⟩) (acc := [(pA b2, pA b2), (pA b2, pA b2), (.bool true, .bool true), (.bool true, .bool true)]) (by kernel_rfl) (by kernel_rfl) ⟨rfl, rfl, rfl, rfl, trivial⟩ ?_
  refine run_once (by kernel_rfl) (fun J1 hJ1 => ?_)
  refine run_auto [(14, .bool true), (18, .bool true), (23, iV 1)] 33 [true, true] [0] [0, 1, 4, 5, 6, 2, 7, 8, 9, 10, 11, 12, 13, 14, 15, 3, 16, 17, 18, 23, 19, 20, 21, 22, 24] [0, 1] (st' := ⟨[(0, pA b1), (1, pA b2), (4, iV 2), (5, .bool true), (6, iV 2), (2, iV 2), (7, iV 2), (8, iV 2), (9, .pointer (some ⟨b2, 12, none⟩)), (10, .pointer (some ⟨b2, 17, none⟩)), (11, .pointer (some ⟨b2, 30, none⟩)), (12, .pointer (some ⟨b2, 32, none⟩)), (13, iV 1), (14, .bool true), (15, iV 0), (3, iV 0), (16, iV 2), (17, iV 0), (18, .bool true), (23, iV 1), (19, iV 2), (20, iV 0), (21, .pointer (some ⟨b2, 12, none⟩)), (22, .pointer (some ⟨b2, 12, none⟩)), (24, iV 2)], [(b2, aO #[iV 0, iV 40, iV 40, iV 40, iV 40, iV 20, iV 40, iV 0, iV 40, iV 40, iV 40, iV 20, iV 40, iV 0, iV 0, iV 0, iV 0, iV 20, iV 0, iV 0, iV 0, iV 0, iV 0, iV 0, iV 0, iV 0, iV 0, iV 0, iV 0, iV 0, iV 20, iV 20, iV 20, iV 0, iV 0, iV 0] 70), (b1, aO #[iV 0, iV 0, iV 0, iV 0, iV 0, iV 0, iV 0, iV 0, iV 0, iV 0, iV 0, iV 0, iV 0, iV 0, iV 0, iV 0, iV 0, iV 0, iV 0, iV 0, iV 0, iV 0, iV 0, iV 0, iV 0, iV 0, iV 0, iV 0, iV 0, iV 0, iV 0, iV 0, iV 0, iV 0, iV 0, iV 0] 70)]⟩) (acc := [(iV 1, iV 1), (pA b2, pA b2), (.bool true, .bool true), (.bool true, .bool true), (.bool true, .bool true), (.bool true, .bool true)]) (by kernel_rfl) (by kernel_rfl) ⟨rfl, rfl, rfl, rfl, rfl, rfl, trivial⟩ ?_
  refine run_round (by kernel_rfl) (hJ1 _ ?_)
  refine run_auto [(14, .bool true), (18, .bool true), (23, iV 2)] 33 [true, true] [0] [0, 1, 4, 5, 6, 2, 7, 8, 9, 10, 11, 12, 13, 14, 15, 3, 16, 17, 18, 23, 19, 20, 21, 22, 24] [0, 1] (st' := ⟨[(0, pA b1), (1, pA b2), (4, iV 2), (5, .bool true), (6, iV 2), (2, iV 2), (7, iV 2), (8, iV 2), (9, .pointer (some ⟨b2, 12, none⟩)), (10, .pointer (some ⟨b2, 17, none⟩)), (11, .pointer (some ⟨b2, 30, none⟩)), (12, .pointer (some ⟨b2, 32, none⟩)), (13, iV 2), (14, .bool true), (15, iV 1), (3, iV 1), (16, iV 2), (17, iV 1), (18, .bool true), (23, iV 2), (19, iV 2), (20, iV 1), (21, .pointer (some ⟨b2, 12, none⟩)), (22, .pointer (some ⟨b2, 13, none⟩)), (24, iV 2)], [(b2, aO #[iV 0, iV 40, iV 40, iV 40, iV 40, iV 20, iV 40, iV 0, iV 40, iV 40, iV 40, iV 20, iV 40, iV 40, iV 0, iV 0, iV 0, iV 20, iV 0, iV 0, iV 0, iV 0, iV 0, iV 0, iV 0, iV 0, iV 0, iV 0, iV 0, iV 0, iV 20, iV 20, iV 20, iV 0, iV 0, iV 0] 70), (b1, aO #[iV 0, iV 0, iV 0, iV 0, iV 0, iV 0, iV 0, iV 0, iV 0, iV 0, iV 0, iV 0, iV 0, iV 0, iV 0, iV 0, iV 0, iV 0, iV 0, iV 0, iV 0, iV 0, iV 0, iV 0, iV 0, iV 0, iV 0, iV 0, iV 0, iV 0, iV 0, iV 0, iV 0, iV 0, iV 0, iV 0] 70)]⟩) (acc := [(iV 2, iV 2), (pA b2, pA b2), (.bool true, .bool true), (.bool true, .bool true), (.bool true, .bool true), (.bool true, .bool true)]) (by kernel_rfl) (by kernel_rfl) ⟨rfl, rfl, rfl, rfl, rfl, rfl, trivial⟩ ?_
  refine run_round (by kernel_rfl) (hJ1 _ ?_)
  refine run_auto [(14, .bool true), (18, .bool false), (23, iV 3)] 27 [true, false] [] [0, 1, 4, 5, 6, 2, 7, 8, 9, 10, 11, 12, 13, 14, 15, 3, 16, 17, 18, 23, 19, 20, 21, 22, 24] [0, 1] (st' := ⟨[(0, pA b1), (1, pA b2), (4, iV 2), (5, .bool true), (6, iV 2), (2, iV 2), (7, iV 2), (8, iV 2), (9, .pointer (some ⟨b2, 12, none⟩)), (10, .pointer (some ⟨b2, 17, none⟩)), (11, .pointer (some ⟨b2, 30, none⟩)), (12, .pointer (some ⟨b2, 32, none⟩)), (13, iV 3), (14, .bool true), (15, iV 2), (3, iV 2), (16, iV 2), (17, iV 2), (18, .bool false), (23, iV 3), (19, iV 2), (20, iV 1), (21, .pointer (some ⟨b2, 12, none⟩)), (22, .pointer (some ⟨b2, 13, none⟩)), (24, iV 2)], [(b2, aO #[iV 0, iV 40, iV 40, iV 40, iV 40, iV 20, iV 40, iV 0, iV 40, iV 40, iV 40, iV 20, iV 40, iV 40, iV 0, iV 0, iV 0, iV 20, iV 0, iV 0, iV 0, iV 0, iV 0, iV 0, iV 0, iV 0, iV 0, iV 0, iV 0, iV 0, iV 20, iV 20, iV 20, iV 0, iV 0, iV 0] 70), (b1, aO #[iV 0, iV 0, iV 0, iV 0, iV 0, iV 0, iV 0, iV 0, iV 0, iV 0, iV 0, iV 0, iV 0, iV 0, iV 0, iV 0, iV 0, iV 0, iV 0, iV 0, iV 0, iV 0, iV 0, iV 0, iV 0, iV 0, iV 0, iV 0, iV 0, iV 0, iV 0, iV 0, iV 0, iV 0, iV 0, iV 0] 70)]⟩) (acc := [(iV 3, iV 3), (.bool false, .bool false), (.bool false, .bool false), (.bool true, .bool true), (.bool true, .bool true)]) (by kernel_rfl) (by kernel_rfl) ⟨rfl, rfl, rfl, rfl, rfl, trivial⟩ ?_
  refine run_round (by kernel_rfl) (hJ1 _ ?_)
  refine run_auto [(14, .bool true), (18, .bool true), (23, iV 4)] 33 [true, true] [0] [0, 1, 4, 5, 6, 2, 7, 8, 9, 10, 11, 12, 13, 14, 15, 3, 16, 17, 18, 23, 19, 20, 21, 22, 24] [0, 1] (st' := ⟨[(0, pA b1), (1, pA b2), (4, iV 2), (5, .bool true), (6, iV 2), (2, iV 2), (7, iV 2), (8, iV 2), (9, .pointer (some ⟨b2, 12, none⟩)), (10, .pointer (some ⟨b2, 17, none⟩)), (11, .pointer (some ⟨b2, 30, none⟩)), (12, .pointer (some ⟨b2, 32, none⟩)), (13, iV 4), (14, .bool true), (15, iV 3), (3, iV 3), (16, iV 2), (17, iV 3), (18, .bool true), (23, iV 4), (19, iV 2), (20, iV 3), (21, .pointer (some ⟨b2, 12, none⟩)), (22, .pointer (some ⟨b2, 15, none⟩)), (24, iV 2)], [(b2, aO #[iV 0, iV 40, iV 40, iV 40, iV 40, iV 20, iV 40, iV 0, iV 40, iV 40, iV 40, iV 20, iV 40, iV 40, iV 0, iV 40, iV 0, iV 20, iV 0, iV 0, iV 0, iV 0, iV 0, iV 0, iV 0, iV 0, iV 0, iV 0, iV 0, iV 0, iV 20, iV 20, iV 20, iV 0, iV 0, iV 0] 70), (b1, aO #[iV 0, iV 0, iV 0, iV 0, iV 0, iV 0, iV 0, iV 0, iV 0, iV 0, iV 0, iV 0, iV 0, iV 0, iV 0, iV 0, iV 0, iV 0, iV 0, iV 0, iV 0, iV 0, iV 0, iV 0, iV 0, iV 0, iV 0, iV 0, iV 0, iV 0, iV 0, iV 0, iV 0, iV 0, iV 0, iV 0] 70)]⟩) (acc := [(iV 4, iV 4), (pA b2, pA b2), (.bool true, .bool true), (.bool true, .bool true), (.bool true, .bool true), (.bool true, .bool true)]) (by kernel_rfl) (by kernel_rfl) ⟨rfl, rfl, rfl, rfl, rfl, rfl, trivial⟩ ?_
  refine run_round (by kernel_rfl) (hJ1 _ ?_)
  refine run_auto [(14, .bool true), (18, .bool true), (23, iV 5)] 33 [true, true] [0] [0, 1, 4, 5, 6, 2, 7, 8, 9, 10, 11, 12, 13, 14, 15, 3, 16, 17, 18, 23, 19, 20, 21, 22, 24] [0, 1] (st' := ⟨[(0, pA b1), (1, pA b2), (4, iV 2), (5, .bool true), (6, iV 2), (2, iV 2), (7, iV 2), (8, iV 2), (9, .pointer (some ⟨b2, 12, none⟩)), (10, .pointer (some ⟨b2, 17, none⟩)), (11, .pointer (some ⟨b2, 30, none⟩)), (12, .pointer (some ⟨b2, 32, none⟩)), (13, iV 5), (14, .bool true), (15, iV 4), (3, iV 4), (16, iV 2), (17, iV 4), (18, .bool true), (23, iV 5), (19, iV 2), (20, iV 4), (21, .pointer (some ⟨b2, 12, none⟩)), (22, .pointer (some ⟨b2, 16, none⟩)), (24, iV 2)], [(b2, aO #[iV 0, iV 40, iV 40, iV 40, iV 40, iV 20, iV 40, iV 0, iV 40, iV 40, iV 40, iV 20, iV 40, iV 40, iV 0, iV 40, iV 40, iV 20, iV 0, iV 0, iV 0, iV 0, iV 0, iV 0, iV 0, iV 0, iV 0, iV 0, iV 0, iV 0, iV 20, iV 20, iV 20, iV 0, iV 0, iV 0] 70), (b1, aO #[iV 0, iV 0, iV 0, iV 0, iV 0, iV 0, iV 0, iV 0, iV 0, iV 0, iV 0, iV 0, iV 0, iV 0, iV 0, iV 0, iV 0, iV 0, iV 0, iV 0, iV 0, iV 0, iV 0, iV 0, iV 0, iV 0, iV 0, iV 0, iV 0, iV 0, iV 0, iV 0, iV 0, iV 0, iV 0, iV 0] 70)]⟩) (acc := [(iV 5, iV 5), (pA b2, pA b2), (.bool true, .bool true), (.bool true, .bool true), (.bool true, .bool true), (.bool true, .bool true)]) (by kernel_rfl) (by kernel_rfl) ⟨rfl, rfl, rfl, rfl, rfl, rfl, trivial⟩ ?_
  refine run_round (by kernel_rfl) (hJ1 _ ?_)
  refine run_auto [(14, .bool false), (24, iV 3)] 12 [false] [] [0, 1, 4, 5, 6, 2, 7, 8, 9, 10, 11, 12, 13, 14, 15, 3, 16, 17, 18, 23, 19, 20, 21, 22, 24] [0, 1] (st' := ⟨[(0, pA b1), (1, pA b2), (4, iV 3), (5, .bool true), (6, iV 2), (2, iV 2), (7, iV 2), (8, iV 2), (9, .pointer (some ⟨b2, 12, none⟩)), (10, .pointer (some ⟨b2, 17, none⟩)), (11, .pointer (some ⟨b2, 30, none⟩)), (12, .pointer (some ⟨b2, 32, none⟩)), (13, iV 5), (14, .bool false), (15, iV 4), (3, iV 4), (16, iV 2), (17, iV 4), (18, .bool true), (23, iV 5), (19, iV 2), (20, iV 4), (21, .pointer (some ⟨b2, 12, none⟩)), (22, .pointer (some ⟨b2, 16, none⟩)), (24, iV 3)], [(b2, aO #[iV 0, iV 40, iV 40, iV 40, iV 40, iV 20, iV 40, iV 0, iV 40, iV 40, iV 40, iV 20, iV 40, iV 40, iV 0, iV 40, iV 40, iV 20, iV 0, iV 0, iV 0, iV 0, iV 0, iV 0, iV 0, iV 0, iV 0, iV 0, iV 0, iV 0, iV 20, iV 20, iV 20, iV 0, iV 0, iV 0] 70), (b1, aO #[iV 0, iV 0, iV 0, iV 0, iV 0, iV 0, iV 0, iV 0, iV 0, iV 0, iV 0, iV 0, iV 0, iV 0, iV 0, iV 0, iV 0, iV 0, iV 0, iV 0, iV 0, iV 0, iV 0, iV 0, iV 0, iV 0, iV 0, iV 0, iV 0, iV 0, iV 0, iV 0, iV 0, iV 0, iV 0, iV 0] 70)]⟩) (acc := [(iV 3, iV 3), (.bool false, .bool false), (.bool false, .bool false)]) (by kernel_rfl) (by kernel_rfl) ⟨rfl, rfl, rfl, trivial⟩ ?_
  refine run_round (by kernel_rfl) (hJ0 _ ?_)
  refine run_auto [(5, .bool true)] 30 [true] [0, 0] [0, 1, 4, 5, 6, 2, 7, 8, 9, 10, 11, 12, 13, 14, 15, 3, 16, 17, 18, 23, 19, 20, 21, 22, 24] [0, 1] (st' := ⟨[(0, pA b1), (1, pA b2), (4, iV 3), (5, .bool true), (6, iV 3), (2, iV 3), (7, iV 3), (8, iV 3), (9, .pointer (some ⟨b2, 18, none⟩)), (10, .pointer (some ⟨b2, 23, none⟩)), (11, .pointer (some ⟨b2, 30, none⟩)), (12, .pointer (some ⟨b2, 33, none⟩)), (13, iV 0), (14, .bool false), (15, iV 4), (3, iV 4), (16, iV 2), (17, iV 4), (18, .bool true), (23, iV 5), (19, iV 2), (20, iV 4), (21, .pointer (some ⟨b2, 12, none⟩)), (22, .pointer (some ⟨b2, 16, none⟩)), (24, iV 3)], [(b2, aO #[iV 0, iV 40, iV 40, iV 40, iV 40, iV 20, iV 40, iV 0, iV 40, iV 40, iV 40, iV 20, iV 40, iV 40, iV 0, iV 40, iV 40, iV 20, iV 0, iV 0, iV 0, iV 0, iV 0, iV 20, iV 0, iV 0, iV 0, iV 0, iV 0, iV 0, iV 20, iV 20, iV 20, iV 20, iV 0, iV 0] 70), (b1, aO #[iV 0, iV 0, iV 0, iV 0, iV 0, iV 0, iV 0, iV 0, iV 0, iV 0, iV 0, iV 0, iV 0, iV 0, iV 0, iV 0, iV 0, iV 0, iV 0, iV 0, iV 0, iV 0, iV 0, iV 0, iV 0, iV 0, iV 0, iV 0, iV 0, iV 0, iV 0, iV 0, iV 0, iV 0, iV 0, iV 0] 70)]⟩) (acc := [(pA b2, pA b2), (pA b2, pA b2), (.bool true, .bool true), (.bool true, .bool true)]) (by kernel_rfl) (by kernel_rfl) ⟨rfl, rfl, rfl, rfl, trivial⟩ ?_
  refine run_once (by kernel_rfl) (fun J1 hJ1 => ?_)
  refine run_auto [(14, .bool true), (18, .bool true), (23, iV 1)] 33 [true, true] [0] [0, 1, 4, 5, 6, 2, 7, 8, 9, 10, 11, 12, 13, 14, 15, 3, 16, 17, 18, 23, 19, 20, 21, 22, 24] [0, 1] (st' := ⟨[(0, pA b1), (1, pA b2), (4, iV 3), (5, .bool true), (6, iV 3), (2, iV 3), (7, iV 3), (8, iV 3), (9, .pointer (some ⟨b2, 18, none⟩)), (10, .pointer (some ⟨b2, 23, none⟩)), (11, .pointer (some ⟨b2, 30, none⟩)), (12, .pointer (some ⟨b2, 33, none⟩)), (13, iV 1), (14, .bool true), (15, iV 0), (3, iV 0), (16, iV 3), (17, iV 0), (18, .bool true), (23, iV 1), (19, iV 3), (20, iV 0), (21, .pointer (some ⟨b2, 18, none⟩)), (22, .pointer (some ⟨b2, 18, none⟩)), (24, iV 3)], [(b2, aO #[iV 0, iV 40, iV 40, iV 40, iV 40, iV 20, iV 40, iV 0, iV 40, iV 40, iV 40, iV 20, iV 40, iV 40, iV 0, iV 40, iV 40, iV 20, iV 40, iV 0, iV 0, iV 0, iV 0, iV 20, iV 0, iV 0, iV 0, iV 0, iV 0, iV 0, iV 20, iV 20, iV 20, iV 20, iV 0, iV 0] 70), (b1, aO #[iV 0, iV 0, iV 0, iV 0, iV 0, iV 0, iV 0, iV 0, iV 0, iV 0, iV 0, iV 0, iV 0, iV 0, iV 0, iV 0, iV 0, iV 0, iV 0, iV 0, iV 0, iV 0, iV 0, iV 0, iV 0, iV 0, iV 0, iV 0, iV 0, iV 0, iV 0, iV 0, iV 0, iV 0, iV 0, iV 0] 70)]⟩) (acc := [(iV 1, iV 1), (pA b2, pA b2), (.bool true, .bool true), (.bool true, .bool true), (.bool true, .bool true), (.bool true, .bool true)]) (by kernel_rfl) (by kernel_rfl) ⟨rfl, rfl, rfl, rfl, rfl, rfl, trivial⟩ ?_
  refine run_round (by kernel_rfl) (hJ1 _ ?_)
  refine run_auto [(14, .bool true), (18, .bool true), (23, iV 2)] 33 [true, true] [0] [0, 1, 4, 5, 6, 2, 7, 8, 9, 10, 11, 12, 13, 14, 15, 3, 16, 17, 18, 23, 19, 20, 21, 22, 24] [0, 1] (st' := ⟨[(0, pA b1), (1, pA b2), (4, iV 3), (5, .bool true), (6, iV 3), (2, iV 3), (7, iV 3), (8, iV 3), (9, .pointer (some ⟨b2, 18, none⟩)), (10, .pointer (some ⟨b2, 23, none⟩)), (11, .pointer (some ⟨b2, 30, none⟩)), (12, .pointer (some ⟨b2, 33, none⟩)), (13, iV 2), (14, .bool true), (15, iV 1), (3, iV 1), (16, iV 3), (17, iV 1), (18, .bool true), (23, iV 2), (19, iV 3), (20, iV 1), (21, .pointer (some ⟨b2, 18, none⟩)), (22, .pointer (some ⟨b2, 19, none⟩)), (24, iV 3)], [(b2, aO #[iV 0, iV 40, iV 40, iV 40, iV 40, iV 20, iV 40, iV 0, iV 40, iV 40, iV 40, iV 20, iV 40, iV 40, iV 0, iV 40, iV 40, iV 20, iV 40, iV 40, iV 0, iV 0, iV 0, iV 20, iV 0, iV 0, iV 0, iV 0, iV 0, iV 0, iV 20, iV 20, iV 20, iV 20, iV 0, iV 0] 70), (b1, aO #[iV 0, iV 0, iV 0, iV 0, iV 0, iV 0, iV 0, iV 0, iV 0, iV 0, iV 0, iV 0, iV 0, iV 0, iV 0, iV 0, iV 0, iV 0, iV 0, iV 0, iV 0, iV 0, iV 0, iV 0, iV 0, iV 0, iV 0, iV 0, iV 0, iV 0, iV 0, iV 0, iV 0, iV 0, iV 0, iV 0] 70)]⟩) (acc := [(iV 2, iV 2), (pA b2, pA b2), (.bool true, .bool true), (.bool true, .bool true), (.bool true, .bool true), (.bool true, .bool true)]) (by kernel_rfl) (by kernel_rfl) ⟨rfl, rfl, rfl, rfl, rfl, rfl, trivial⟩ ?_
  refine run_round (by kernel_rfl) (hJ1 _ ?_)
  refine run_auto [(14, .bool true), (18, .bool true), (23, iV 3)] 33 [true, true] [0] [0, 1, 4, 5, 6, 2, 7, 8, 9, 10, 11, 12, 13, 14, 15, 3, 16, 17, 18, 23, 19, 20, 21, 22, 24] [0, 1] (st' := ⟨[(0, pA b1), (1, pA b2), (4, iV 3), (5, .bool true), (6, iV 3), (2, iV 3), (7, iV 3), (8, iV 3), (9, .pointer (some ⟨b2, 18, none⟩)), (10, .pointer (some ⟨b2, 23, none⟩)), (11, .pointer (some ⟨b2, 30, none⟩)), (12, .pointer (some ⟨b2, 33, none⟩)), (13, iV 3), (14, .bool true), (15, iV 2), (3, iV 2), (16, iV 3), (17, iV 2), (18, .bool true), (23, iV 3), (19, iV 3), (20, iV 2), (21, .pointer (some ⟨b2, 18, none⟩)), (22, .pointer (some ⟨b2, 20, none⟩)), (24, iV 3)], [(b2, aO #[iV 0, iV 40, iV 40, iV 40, iV 40, iV 20, iV 40, iV 0, iV 40, iV 40, iV 40, iV 20, iV 40, iV 40, iV 0, iV 40, iV 40, iV 20, iV 40, iV 40, iV 40, iV 0, iV 0, iV 20, iV 0, iV 0, iV 0, iV 0, iV 0, iV 0, iV 20, iV 20, iV 20, iV 20, iV 0, iV 0] 70), (b1, aO #[iV 0, iV 0, iV 0, iV 0, iV 0, iV 0, iV 0, iV 0, iV 0, iV 0, iV 0, iV 0, iV 0, iV 0, iV 0, iV 0, iV 0, iV 0, iV 0, iV 0, iV 0, iV 0, iV 0, iV 0, iV 0, iV 0, iV 0, iV 0, iV 0, iV 0, iV 0, iV 0, iV 0, iV 0, iV 0, iV 0] 70)]⟩) (acc := [(iV 3, iV 3), (pA b2, pA b2), (.bool true, .bool true), (.bool true, .bool true), (.bool true, .bool true), (.bool true, .bool true)]) (by kernel_rfl) (by kernel_rfl) ⟨rfl, rfl, rfl, rfl, rfl, rfl, trivial⟩ ?_
  refine run_round (by kernel_rfl) (hJ1 _ ?_)
  refine run_auto [(14, .bool true), (18, .bool false), (23, iV 4)] 27 [true, false] [] [0, 1, 4, 5, 6, 2, 7, 8, 9, 10, 11, 12, 13, 14, 15, 3, 16, 17, 18, 23, 19, 20, 21, 22, 24] [0, 1] (st' := ⟨[(0, pA b1), (1, pA b2), (4, iV 3), (5, .bool true), (6, iV 3), (2, iV 3), (7, iV 3), (8, iV 3), (9, .pointer (some ⟨b2, 18, none⟩)), (10, .pointer (some ⟨b2, 23, none⟩)), (11, .pointer (some ⟨b2, 30, none⟩)), (12, .pointer (some ⟨b2, 33, none⟩)), (13, iV 4), (14, .bool true), (15, iV 3), (3, iV 3), (16, iV 3), (17, iV 3), (18, .bool false), (23, iV 4), (19, iV 3), (20, iV 2), (21, .pointer (some ⟨b2, 18, none⟩)), (22, .pointer (some ⟨b2, 20, none⟩)), (24, iV 3)], [(b2, aO #[iV 0, iV 40, iV 40, iV 40, iV 40, iV 20, iV 40, iV 0, iV 40, iV 40, iV 40, iV 20, iV 40, iV 40, iV 0, iV 40, iV 40, iV 20, iV 40, iV 40, iV 40, iV 0, iV 0, iV 20, iV 0, iV 0, iV 0, iV 0, iV 0, iV 0, iV 20, iV 20, iV 20, iV 20, iV 0, iV 0] 70), (b1, aO #[iV 0, iV 0, iV 0, iV 0, iV 0, iV 0, iV 0, iV 0, iV 0, iV 0, iV 0, iV 0, iV 0, iV 0, iV 0, iV 0, iV 0, iV 0, iV 0, iV 0, iV 0, iV 0, iV 0, iV 0, iV 0, iV 0, iV 0, iV 0, iV 0, iV 0, iV 0, iV 0, iV 0, iV 0, iV 0, iV 0] 70)]⟩) (acc := [(iV 4, iV 4), (.bool false, .bool false), (.bool false, .bool false), (.bool true, .bool true), (.bool true, .bool true)]) (by kernel_rfl) (by kernel_rfl) ⟨rfl, rfl, rfl, rfl, rfl, trivial⟩ ?_
  refine run_round (by kernel_rfl) (hJ1 _ ?_)
  refine run_auto [(14, .bool true), (18, .bool true), (23, iV 5)] 33 [true, true] [0] [0, 1, 4, 5, 6, 2, 7, 8, 9, 10, 11, 12, 13, 14, 15, 3, 16, 17, 18, 23, 19, 20, 21, 22, 24] [0, 1] (st' := ⟨[(0, pA b1), (1, pA b2), (4, iV 3), (5, .bool true), (6, iV 3), (2, iV 3), (7, iV 3), (8, iV 3), (9, .pointer (some ⟨b2, 18, none⟩)), (10, .pointer (some ⟨b2, 23, none⟩)), (11, .pointer (some ⟨b2, 30, none⟩)), (12, .pointer (some ⟨b2, 33, none⟩)), (13, iV 5), (14, .bool true), (15, iV 4), (3, iV 4), (16, iV 3), (17, iV 4), (18, .bool true), (23, iV 5), (19, iV 3), (20, iV 4), (21, .pointer (some ⟨b2, 18, none⟩)), (22, .pointer (some ⟨b2, 22, none⟩)), (24, iV 3)], [(b2, aO #[iV 0, iV 40, iV 40, iV 40, iV 40, iV 20, iV 40, iV 0, iV 40, iV 40, iV 40, iV 20, iV 40, iV 40, iV 0, iV 40, iV 40, iV 20, iV 40, iV 40, iV 40, iV 0, iV 40, iV 20, iV 0, iV 0, iV 0, iV 0, iV 0, iV 0, iV 20, iV 20, iV 20, iV 20, iV 0, iV 0] 70), (b1, aO #[iV 0, iV 0, iV 0, iV 0, iV 0, iV 0, iV 0, iV 0, iV 0, iV 0, iV 0, iV 0, iV 0, iV 0, iV 0, iV 0, iV 0, iV 0, iV 0, iV 0, iV 0, iV 0, iV 0, iV 0, iV 0, iV 0, iV 0, iV 0, iV 0, iV 0, iV 0, iV 0, iV 0, iV 0, iV 0, iV 0] 70)]⟩) (acc := [(iV 5, iV 5), (pA b2, pA b2), (.bool true, .bool true), (.bool true, .bool true), (.bool true, .bool true), (.bool true, .bool true)]) (by kernel_rfl) (by kernel_rfl) ⟨rfl, rfl, rfl, rfl, rfl, rfl, trivial⟩ ?_
  refine run_round (by kernel_rfl) (hJ1 _ ?_)
  refine run_auto [(14, .bool false), (24, iV 4)] 12 [false] [] [0, 1, 4, 5, 6, 2, 7, 8, 9, 10, 11, 12, 13, 14, 15, 3, 16, 17, 18, 23, 19, 20, 21, 22, 24] [0, 1] (st' := ⟨[(0, pA b1), (1, pA b2), (4, iV 4), (5, .bool true), (6, iV 3), (2, iV 3), (7, iV 3), (8, iV 3), (9, .pointer (some ⟨b2, 18, none⟩)), (10, .pointer (some ⟨b2, 23, none⟩)), (11, .pointer (some ⟨b2, 30, none⟩)), (12, .pointer (some ⟨b2, 33, none⟩)), (13, iV 5), (14, .bool false), (15, iV 4), (3, iV 4), (16, iV 3), (17, iV 4), (18, .bool true), (23, iV 5), (19, iV 3), (20, iV 4), (21, .pointer (some ⟨b2, 18, none⟩)), (22, .pointer (some ⟨b2, 22, none⟩)), (24, iV 4)], [(b2, aO #[iV 0, iV 40, iV 40, iV 40, iV 40, iV 20, iV 40, iV 0, iV 40, iV 40, iV 40, iV 20, iV 40, iV 40, iV 0, iV 40, iV 40, iV 20, iV 40, iV 40, iV 40, iV 0, iV 40, iV 20, iV 0, iV 0, iV 0, iV 0, iV 0, iV 0, iV 20, iV 20, iV 20, iV 20, iV 0, iV 0] 70), (b1, aO #[iV 0, iV 0, iV 0, iV 0, iV 0, iV 0, iV 0, iV 0, iV 0, iV 0, iV 0, iV 0, iV 0, iV 0, iV 0, iV 0, iV 0, iV 0, iV 0, iV 0, iV 0, iV 0, iV 0, iV 0, iV 0, iV 0, iV 0, iV 0, iV 0, iV 0, iV 0, iV 0, iV 0, iV 0, iV 0, iV 0] 70)]⟩) (acc := [(iV 4, iV 4), (.bool false, .bool false), (.bool false, .bool false)]) (by kernel_rfl) (by kernel_rfl) ⟨rfl, rfl, rfl, trivial⟩ ?_
  refine run_round (by kernel_rfl) (hJ0 _ ?_)
  refine run_auto [(5, .bool true)] 30 [true] [0, 0] [0, 1, 4, 5, 6, 2, 7, 8, 9, 10, 11, 12, 13, 14, 15, 3, 16, 17, 18, 23, 19, 20, 21, 22, 24] [0, 1] (st' := ⟨[(0, pA b1), (1, pA b2), (4, iV 4), (5, .bool true), (6, iV 4), (2, iV 4), (7, iV 4), (8, iV 4), (9, .pointer (some ⟨b2, 24, none⟩)), (10, .pointer (some ⟨b2, 29, none⟩)), (11, .pointer (some ⟨b2, 30, none⟩)), (12, .pointer (some ⟨b2, 34, none⟩)), (13, iV 0), (14, .bool false), (15, iV 4), (3, iV 4), (16, iV 3), (17, iV 4), (18, .bool true), (23, iV 5), (19, iV 3), (20, iV 4), (21, .pointer (some ⟨b2, 18, none⟩)), (22, .pointer (some ⟨b2, 22, none⟩)), (24, iV 4)], [(b2, aO #[iV 0, iV 40, iV 40, iV 40, iV 40, iV 20, iV 40, iV 0, iV 40, iV 40, iV 40, iV 20, iV 40, iV 40, iV 0, iV 40, iV 40, iV 20, iV 40, iV 40, iV 40, iV 0, iV 40, iV 20, iV 0, iV 0, iV 0, iV 0, iV 0, iV 20, iV 20, iV 20, iV 20, iV 20, iV 20, iV 0] 70), (b1, aO #[iV 0, iV 0, iV 0, iV 0, iV 0, iV 0, iV 0, iV 0, iV 0, iV 0, iV 0, iV 0, iV 0, iV 0, iV 0, iV 0, iV 0, iV 0, iV 0, iV 0, iV 0, iV 0, iV 0, iV 0, iV 0, iV 0, iV 0, iV 0, iV 0, iV 0, iV 0, iV 0, iV 0, iV 0, iV 0, iV 0] 70)]⟩) (acc := [(pA b2, pA b2), (pA b2, pA b2), (.bool true, .bool true), (.bool true, .bool true)]) (by kernel_rfl) (by kernel_rfl) ⟨rfl, rfl, rfl, rfl, trivial⟩ ?_
  refine run_once (by kernel_rfl) (fun J1 hJ1 => ?_)
  refine run_auto [(14, .bool true), (18, .bool true), (23, iV 1)] 33 [true, true] [0] [0, 1, 4, 5, 6, 2, 7, 8, 9, 10, 11, 12, 13, 14, 15, 3, 16, 17, 18, 23, 19, 20, 21, 22, 24] [0, 1] (st' := ⟨[(0, pA b1), (1, pA b2), (4, iV 4), (5, .bool true), (6, iV 4), (2, iV 4), (7, iV 4), (8, iV 4), (9, .pointer (some ⟨b2, 24, none⟩)), (10, .pointer (some ⟨b2, 29, none⟩)), (11, .pointer (some ⟨b2, 30, none⟩)), (12, .pointer (some ⟨b2, 34, none⟩)), (13, iV 1), (14, .bool true), (15, iV 0), (3, iV 0), (16, iV 4), (17, iV 0), (18, .bool true), (23, iV 1), (19, iV 4), (20, iV 0), (21, .pointer (some ⟨b2, 24, none⟩)), (22, .pointer (some ⟨b2, 24, none⟩)), (24, iV 4)], [(b2, aO #[iV 0, iV 40, iV 40, iV 40, iV 40, iV 20, iV 40, iV 0, iV 40, iV 40, iV 40, iV 20, iV 40, iV 40, iV 0, iV 40, iV 40, iV 20, iV 40, iV 40, iV 40, iV 0, iV 40, iV 20, iV 40, iV 0, iV 0, iV 0, iV 0, iV 20, iV 20, iV 20, iV 20, iV 20, iV 20, iV 0] 70), (b1, aO #[iV 0, iV 0, iV 0, iV 0, iV 0, iV 0, iV 0, iV 0, iV 0, iV 0, iV 0, iV 0, iV 0, iV 0, iV 0, iV 0, iV 0, iV 0, iV 0, iV 0, iV 0, iV 0, iV 0, iV 0, iV 0, iV 0, iV 0, iV 0, iV 0, iV 0, iV 0, iV 0, iV 0, iV 0, iV 0, iV 0] 70)]⟩) (acc := [(iV 1, iV 1), (pA b2, pA b2), (.bool true, .bool true), (.bool true, .bool true), (.bool true, .bool true), (.bool true, .bool true)]) (by kernel_rfl) (by kernel_rfl) ⟨rfl, rfl, rfl, rfl, rfl, rfl, trivial⟩ ?_
  refine run_round (by kernel_rfl) (hJ1 _ ?_)
  refine run_auto [(14, .bool true), (18, .bool true), (23, iV 2)] 33 [true, true] [0] [0, 1, 4, 5, 6, 2, 7, 8, 9, 10, 11, 12, 13, 14, 15, 3, 16, 17, 18, 23, 19, 20, 21, 22, 24] [0, 1] (st' := ⟨[(0, pA b1), (1, pA b2), (4, iV 4), (5, .bool true), (6, iV 4), (2, iV 4), (7, iV 4), (8, iV 4), (9, .pointer (some ⟨b2, 24, none⟩)), (10, .pointer (some ⟨b2, 29, none⟩)), (11, .pointer (some ⟨b2, 30, none⟩)), (12, .pointer (some ⟨b2, 34, none⟩)), (13, iV 2), (14, .bool true), (15, iV 1), (3, iV 1), (16, iV 4), (17, iV 1), (18, .bool true), (23, iV 2), (19, iV 4), (20, iV 1), (21, .pointer (some ⟨b2, 24, none⟩)), (22, .pointer (some ⟨b2, 25, none⟩)), (24, iV 4)], [(b2, aO #[iV 0, iV 40, iV 40, iV 40, iV 40, iV 20, iV 40, iV 0, iV 40, iV 40, iV 40, iV 20, iV 40, iV 40, iV 0, iV 40, iV 40, iV 20, iV 40, iV 40, iV 40, iV 0, iV 40, iV 20, iV 40, iV 40, iV 0, iV 0, iV 0, iV 20, iV 20, iV 20, iV 20, iV 20, iV 20, iV 0] 70), (b1, aO #[iV 0, iV 0, iV 0, iV 0, iV 0, iV 0, iV 0, iV 0, iV 0, iV 0, iV 0, iV 0, iV 0, iV 0, iV 0, iV 0, iV 0, iV 0, iV 0, iV 0, iV 0, iV 0, iV 0, iV 0, iV 0, iV 0, iV 0, iV 0, iV 0, iV 0, iV 0, iV 0, iV 0, iV 0, iV 0, iV 0] 70)]⟩) (acc := [(iV 2, iV 2), (pA b2, pA b2), (.bool true, .bool true), (.bool true, .bool true), (.bool true, .bool true), (.bool true, .bool true)]) (by kernel_rfl) (by kernel_rfl) ⟨rfl, rfl, rfl, rfl, rfl, rfl, trivial⟩ ?_
  refine run_round (by kernel_rfl) (hJ1 _ ?_)
  refine run_auto [(14, .bool true), (18, .bool true), (23, iV 3)] 33 [true, true] [0] [0, 1, 4, 5, 6, 2, 7, 8, 9, 10, 11, 12, 13, 14, 15, 3, 16, 17, 18, 23, 19, 20, 21, 22, 24] [0, 1] (st' := ⟨[(0, pA b1), (1, pA b2), (4, iV 4), (5, .bool true), (6, iV 4), (2, iV 4), (7, iV 4), (8, iV 4), (9, .pointer (some ⟨b2, 24, none⟩)), (10, .pointer (some ⟨b2, 29, none⟩)), (11, .pointer (some ⟨b2, 30, none⟩)), (12, .pointer (some ⟨b2, 34, none⟩)), (13, iV 3), (14, .bool true), (15, iV 2), (3, iV 2), (16, iV 4), (17, iV 2), (18, .bool true), (23, iV 3), (19, iV 4), (20, iV 2), (21, .pointer (some ⟨b2, 24, none⟩)), (22, .pointer (some ⟨b2, 26, none⟩)), (24, iV 4)], [(b2, aO #[iV 0, iV 40, iV 40, iV 40, iV 40, iV 20, iV 40, iV 0, iV 40, iV 40, iV 40, iV 20, iV 40, iV 40, iV 0, iV 40, iV 40, iV 20, iV 40, iV 40, iV 40, iV 0, iV 40, iV 20, iV 40, iV 40, iV 40, iV 0, iV 0, iV 20, iV 20, iV 20, iV 20, iV 20, iV 20, iV 0] 70), (b1, aO #[iV 0, iV 0, iV 0, iV 0, iV 0, iV 0, iV 0, iV 0, iV 0, iV 0, iV 0, iV 0, iV 0, iV 0, iV 0, iV 0, iV 0, iV 0, iV 0, iV 0, iV 0, iV 0, iV 0, iV 0, iV 0, iV 0, iV 0, iV 0, iV 0, iV 0, iV 0, iV 0, iV 0, iV 0, iV 0, iV 0] 70)]⟩) (acc := [(iV 3, iV 3), (pA b2, pA b2), (.bool true, .bool true), (.bool true, .bool true), (.bool true, .bool true), (.bool true, .bool true)]) (by kernel_rfl) (by kernel_rfl) ⟨rfl, rfl, rfl, rfl, rfl, rfl, trivial⟩ ?_
  refine run_round (by kernel_rfl) (hJ1 _ ?_)
  refine run_auto [(14, .bool true), (18, .bool true), (23, iV 4)] 33 [true, true] [0] [0, 1, 4, 5, 6, 2, 7, 8, 9, 10, 11, 12, 13, 14, 15, 3, 16, 17, 18, 23, 19, 20, 21, 22, 24] [0, 1] (st' := ⟨[(0, pA b1), (1, pA b2), (4, iV 4), (5, .bool true), (6, iV 4), (2, iV 4), (7, iV 4), (8, iV 4), (9, .pointer (some ⟨b2, 24, none⟩)), (10, .pointer (some ⟨b2, 29, none⟩)), (11, .pointer (some ⟨b2, 30, none⟩)), (12, .pointer (some ⟨b2, 34, none⟩)), (13, iV 4), (14, .bool true), (15, iV 3), (3, iV 3), (16, iV 4), (17, iV 3), (18, .bool true), (23, iV 4), (19, iV 4), (20, iV 3), (21, .pointer (some ⟨b2, 24, none⟩)), (22, .pointer (some ⟨b2, 27, none⟩)), (24, iV 4)], [(b2, aO #[iV 0, iV 40, iV 40, iV 40, iV 40, iV 20, iV 40, iV 0, iV 40, iV 40, iV 40, iV 20, iV 40, iV 40, iV 0, iV 40, iV 40, iV 20, iV 40, iV 40, iV 40, iV 0, iV 40, iV 20, iV 40, iV 40, iV 40, iV 40, iV 0, iV 20, iV 20, iV 20, iV 20, iV 20, iV 20, iV 0] 70), (b1, aO #[iV 0, iV 0, iV 0, iV 0, iV 0, iV 0, iV 0, iV 0, iV 0, iV 0, iV 0, iV 0, iV 0, iV 0, iV 0, iV 0, iV 0, iV 0, iV 0, iV 0, iV 0, iV 0, iV 0, iV 0, iV 0, iV 0, iV 0, iV 0, iV 0, iV 0, iV 0, iV 0, iV 0, iV 0, iV 0, iV 0] 70)]⟩) (acc := [(iV 4, iV 4), (pA b2, pA b2), (.bool true, .bool true), (.bool true, .bool true), (.bool true, .bool true), (.bool true, .bool true)]) (by kernel_rfl) (by kernel_rfl) ⟨rfl, rfl, rfl, rfl, rfl, rfl, trivial⟩ ?_
  refine run_round (by kernel_rfl) (hJ1 _ ?_)
  refine run_auto [(14, .bool true), (18, .bool false), (23, iV 5)] 27 [true, false] [] [0, 1, 4, 5, 6, 2, 7, 8, 9, 10, 11, 12, 13, 14, 15, 3, 16, 17, 18, 23, 19, 20, 21, 22, 24] [0, 1] (st' := ⟨[(0, pA b1), (1, pA b2), (4, iV 4), (5, .bool true), (6, iV 4), (2, iV 4), (7, iV 4), (8, iV 4), (9, .pointer (some ⟨b2, 24, none⟩)), (10, .pointer (some ⟨b2, 29, none⟩)), (11, .pointer (some ⟨b2, 30, none⟩)), (12, .pointer (some ⟨b2, 34, none⟩)), (13, iV 5), (14, .bool true), (15, iV 4), (3, iV 4), (16, iV 4), (17, iV 4), (18, .bool false), (23, iV 5), (19, iV 4), (20, iV 3), (21, .pointer (some ⟨b2, 24, none⟩)), (22, .pointer (some ⟨b2, 27, none⟩)), (24, iV 4)], [(b2, aO #[iV 0, iV 40, iV 40, iV 40, iV 40, iV 20, iV 40, iV 0, iV 40, iV 40, iV 40, iV 20, iV 40, iV 40, iV 0, iV 40, iV 40, iV 20, iV 40, iV 40, iV 40, iV 0, iV 40, iV 20, iV 40, iV 40, iV 40, iV 40, iV 0, iV 20, iV 20, iV 20, iV 20, iV 20, iV 20, iV 0] 70), (b1, aO #[iV 0, iV 0, iV 0, iV 0, iV 0, iV 0, iV 0, iV 0, iV 0, iV 0, iV 0, iV 0, iV 0, iV 0, iV 0, iV 0, iV 0, iV 0, iV 0, iV 0, iV 0, iV 0, iV 0, iV 0, iV 0, iV 0, iV 0, iV 0, iV 0, iV 0, iV 0, iV 0, iV 0, iV 0, iV 0, iV 0] 70)]⟩) (acc := [(iV 5, iV 5), (.bool false, .bool false), (.bool false, .bool false), (.bool true, .bool true), (.bool true, .bool true)]) (by kernel_rfl) (by kernel_rfl) ⟨rfl, rfl, rfl, rfl, rfl, trivial⟩ ?_
  refine run_round (by kernel_rfl) (hJ1 _ ?_)
  refine run_auto [(14, .bool false), (24, iV 5)] 12 [false] [] [0, 1, 4, 5, 6, 2, 7, 8, 9, 10, 11, 12, 13, 14, 15, 3, 16, 17, 18, 23, 19, 20, 21, 22, 24] [0, 1] (st' := ⟨[(0, pA b1), (1, pA b2), (4, iV 5), (5, .bool true), (6, iV 4), (2, iV 4), (7, iV 4), (8, iV 4), (9, .pointer (some ⟨b2, 24, none⟩)), (10, .pointer (some ⟨b2, 29, none⟩)), (11, .pointer (some ⟨b2, 30, none⟩)), (12, .pointer (some ⟨b2, 34, none⟩)), (13, iV 5), (14, .bool false), (15, iV 4), (3, iV 4), (16, iV 4), (17, iV 4), (18, .bool false), (23, iV 5), (19, iV 4), (20, iV 3), (21, .pointer (some ⟨b2, 24, none⟩)), (22, .pointer (some ⟨b2, 27, none⟩)), (24, iV 5)], [(b2, aO #[iV 0, iV 40, iV 40, iV 40, iV 40, iV 20, iV 40, iV 0, iV 40, iV 40, iV 40, iV 20, iV 40, iV 40, iV 0, iV 40, iV 40, iV 20, iV 40, iV 40, iV 40, iV 0, iV 40, iV 20, iV 40, iV 40, iV 40, iV 40, iV 0, iV 20, iV 20, iV 20, iV 20, iV 20, iV 20, iV 0] 70), (b1, aO #[iV 0, iV 0, iV 0, iV 0, iV 0, iV 0, iV 0, iV 0, iV 0, iV 0, iV 0, iV 0, iV 0, iV 0, iV 0, iV 0, iV 0, iV 0, iV 0, iV 0, iV 0, iV 0, iV 0, iV 0, iV 0, iV 0, iV 0, iV 0, iV 0, iV 0, iV 0, iV 0, iV 0, iV 0, iV 0, iV 0] 70)]⟩) (acc := [(iV 5, iV 5), (.bool false, .bool false), (.bool false, .bool false)]) (by kernel_rfl) (by kernel_rfl) ⟨rfl, rfl, rfl, trivial⟩ ?_
  refine run_round (by kernel_rfl) (hJ0 _ ?_)
  refine run_auto [(5, .bool false)] 12 [false] [0, 1] [0] [1] (st' := ⟨[(0, pA b1)], [(b1, aO #[iV 0, iV 40, iV 40, iV 40, iV 40, iV 20, iV 40, iV 0, iV 40, iV 40, iV 40, iV 20, iV 40, iV 40, iV 0, iV 40, iV 40, iV 20, iV 40, iV 40, iV 40, iV 0, iV 40, iV 20, iV 40, iV 40, iV 40, iV 40, iV 0, iV 20, iV 20, iV 20, iV 20, iV 20, iV 20, iV 0] 70)]⟩) (acc := [(pA b1, pA b1), (pA b2, pA b2), (.bool false, .bool false), (.bool false, .bool false)]) (by kernel_rfl) (by kernel_rfl) ⟨rfl, rfl, rfl, rfl, trivial⟩ ?_
  refine run_end (fn := f107) rfl (Nat.le_refl _) (by kernel_rfl) [0] [.agg #[iV 0, iV 40, iV 40, iV 40, iV 40, iV 20, iV 40, iV 0, iV 40, iV 40, iV 40, iV 20, iV 40, iV 40, iV 0, iV 40, iV 40, iV 20, iV 40, iV 40, iV 40, iV 0, iV 40, iV 20, iV 40, iV 40, iV 40, iV 40, iV 0, iV 20, iV 20, iV 20, iV 20, iV 20, iV 20, iV 0]] (e := [(pA b1, pA b1)]) (by kernel_rfl) ⟨rfl, trivial⟩ (fun w1 k1 h1 => ?_)
  exact ⟨by kernel_rfl, k1.keeps (fun _ h => h)⟩


theorem Gp.free_small : (Gp.free 5 20).Small 6 40 := by
  intro i j _ _
  unfold Gp.free
  split
  · omega
  · split <;> omega
/-- What is written down of the first k blocks. -/
def unr (p : Prn) : Nat → Gp
  | 0 => Gp.free 5 20
  | k + 1 => (unr p k).putr k 5 (p.blk k).1 (p.blk k).2
structure UnI (p : Prn) (k : Nat) : Prop where
  le : k ≤ 5
  done : (unr p k).Done 6
  small : (unr p k).Small 6 40
  puts : (Gp.free 5 20).puts (p.bds.take k) = some (unr p k)
theorem UnI.start (p : Prn) : UnI p 0 := ⟨by omega, Gp.free_done (by omega), Gp.free_small, rfl⟩
theorem UnI.next {p : Prn} (hp : p.Ok) {k : Nat} (h : UnI p k) (hk : k < 5) : UnI p (k + 1) := by
  obtain ⟨g, hg, _⟩ := Prn.unread_some hp
  have hl : p.bds.length = 5 := by simp [Prn.bds]
  have hb : p.bds[k]? = some (k, 5, (p.blk k).1, (p.blk k).2) := by
    unfold Prn.bds
    rw [List.getElem?_map, List.getElem?_range hk]
    rfl
  have ht : p.bds.take (k + 1) = p.bds.take k ++ [(k, 5, (p.blk k).1, (p.blk k).2)] := by
    rw [List.take_add_one, hb]
    rfl
  have h1 : (Gp.free 5 20).puts (p.bds.take (k + 1)) = (unr p k).put k 5 (p.blk k).1 (p.blk k).2 := by
    rw [ht, Gp.puts_append, h.puts]
    show (unr p k).puts [_] = _
    unfold Gp.puts
    cases (unr p k).put k 5 (p.blk k).1 (p.blk k).2 <;> rfl
  have h2 : ∃ g', (unr p k).put k 5 (p.blk k).1 (p.blk k).2 = some g' := by
    unfold Prn.unread at hg
    rw [← List.take_append_drop (k + 1) p.bds, Gp.puts_append, h1] at hg
    cases hx : (unr p k).put k 5 (p.blk k).1 (p.blk k).2 with
    | none => rw [hx] at hg; cases hg
    | some g' => exact ⟨g', rfl⟩
  obtain ⟨g', h2⟩ := h2
  have h3 : unr p (k + 1) = g' := Gp.putr_some h2
  rw [h2, ← h3] at h1
  rw [← h3] at h2
  exact ⟨by omega, (Gp.put_some h.done (by omega) (by omega) h2).1, Gp.Small.put h.small h2, h1⟩
theorem unread_is {p : Prn} (h : UnI p 5) : p.unread = some (unr p 5) := by
  have := h.puts
  rwa [List.take_of_length_le (by simp [Prn.bds])] at this
theorem blk_in {p : Prn} {k : Nat} (h : k < p.bs.length) : p.blk k = elB p.bs k := by
  unfold Prn.blk elB
  rw [List.getElem?_eq_getElem h]
  rfl
theorem blk_out {p : Prn} {k : Nat} (h : ¬ k < p.bs.length) : p.blk k = (-20, -20) := by
  unfold Prn.blk
  rw [List.getElem?_eq_none (by omega)]
  rfl
set_option maxRecDepth 100000 in
theorem unread_any (p : Prn) (ba : Option Addr) (bc : Nat) (w : World) (hb : Bls w ba p.bs) (_hl : p.bs.length ≤ maxLen) (hp : p.Ok) : Calls Try.prog 98 #[.slice ba p.bs.length bc] w (Ret (.agg (gc (unr p 5)).toArray) w) := by
  refine calls_run (fn := f98) (c := (f98.body).getD .skip) [.slice ba p.bs.length bc] func98 (by kernel_rfl) (fun _ => False) [] (fun _ h => by cases h) (List.Pairwise.nil) 28 (by kernel_rfl) (by simp) ?_
  refine run_auto [] 2 [] [] [0] [] (st' := ⟨[(0, .slice ba p.bs.length bc)], []⟩) (acc := []) (by kernel_rfl) (by kernel_rfl) trivial ?_
  refine run_new (aO #[iV 0, iV 0, iV 0, iV 0, iV 0, iV 0, iV 0, iV 0, iV 0, iV 0, iV 0, iV 0, iV 0, iV 0, iV 0, iV 0, iV 0, iV 0, iV 0, iV 0, iV 0, iV 0, iV 0, iV 0, iV 0, iV 0, iV 0, iV 0, iV 0, iV 0, iV 0, iV 0, iV 0, iV 0, iV 0, iV 0] 70) (fun b1 => pA b1) (some 2) (fun _ => by kernel_rfl) (fun b1 hb1 => ?_)
  refine run_auto [] 3 [] [] [0, 2] [0] (st' := ⟨[(0, .slice ba p.bs.length bc), (2, pA b1)], [(b1, aO #[iV 0, iV 0, iV 0, iV 0, iV 0, iV 0, iV 0, iV 0, iV 0, iV 0, iV 0, iV 0, iV 0, iV 0, iV 0, iV 0, iV 0, iV 0, iV 0, iV 0, iV 0, iV 0, iV 0, iV 0, iV 0, iV 0, iV 0, iV 0, iV 0, iV 0, iV 0, iV 0, iV 0, iV 0, iV 0, iV 0] 70)]⟩) (acc := []) (by kernel_rfl) (by kernel_rfl) trivial ?_
  refine run_ret1 107 #[] (some 6) (.agg (gc (Gp.free 5 20)).toArray) (by kernel_rfl) (fun w1 k1 h1 => unknown_any w1) ?_
  refine run_new (aO #[iV 0, iV 0, iV 0, iV 0, iV 0, iV 0, iV 0, iV 0, iV 0, iV 0, iV 0, iV 0, iV 0, iV 0, iV 0, iV 0, iV 0, iV 0, iV 0, iV 0, iV 0, iV 0, iV 0, iV 0, iV 0, iV 0, iV 0, iV 0, iV 0, iV 0, iV 0, iV 0, iV 0, iV 0, iV 0, iV 0] 70) (fun b2 => pA b2) (some 3) (fun _ => by kernel_rfl) (fun b2 hb2 => ?_)
  refine run_auto [] 8 [] [0] [0, 2, 3, 7] [0, 1] (st' := ⟨[(0, .slice ba p.bs.length bc), (2, pA b1), (3, pA b2), (7, iV 0)], [(b2, cO (gc (Gp.free 5 20)) 70), (b1, aO #[iV 0, iV 0, iV 0, iV 0, iV 0, iV 0, iV 0, iV 0, iV 0, iV 0, iV 0, iV 0, iV 0, iV 0, iV 0, iV 0, iV 0, iV 0, iV 0, iV 0, iV 0, iV 0, iV 0, iV 0, iV 0, iV 0, iV 0, iV 0, iV 0, iV 0, iV 0, iV 0, iV 0, iV 0, iV 0, iV 0] 70)]⟩) (acc := [(pA b2, pA b2)]) (by kernel_rfl) (by kernel_rfl) ⟨rfl, trivial⟩ ?_
  refine run_auto [] 0 [] [] [0, 2, 3, 7] [0, 1] (st' := ⟨[(0, .slice ba p.bs.length bc), (2, pA b1), (3, pA b2), (7, iV 0)], [(b2, cO (gc (Gp.free 5 20)) 70), (b1, aO #[iV 0, iV 0, iV 0, iV 0, iV 0, iV 0, iV 0, iV 0, iV 0, iV 0, iV 0, iV 0, iV 0, iV 0, iV 0, iV 0, iV 0, iV 0, iV 0, iV 0, iV 0, iV 0, iV 0, iV 0, iV 0, iV 0, iV 0, iV 0, iV 0, iV 0, iV 0, iV 0, iV 0, iV 0, iV 0, iV 0] 70)]⟩) (acc := []) (by kernel_rfl) (by kernel_rfl) trivial ?_
  refine run_loop (S := fun (k : Nat) => ⟨[(0, .slice ba p.bs.length bc), (2, pA b1), (3, pA b2), (7, iV (k : Int))], [(b2, cO (gc (unr p k)) 70), (b1, aO #[iV 0, iV 0, iV 0, iV 0, iV 0, iV 0, iV 0, iV 0, iV 0, iV 0, iV 0, iV 0, iV 0, iV 0, iV 0, iV 0, iV 0, iV 0, iV 0, iV 0, iV 0, iV 0, iV 0, iV 0, iV 0, iV 0, iV 0, iV 0, iV 0, iV 0, iV 0, iV 0, iV 0, iV 0, iV 0, iV 0] 70)]⟩) (fun k => UnI p k) (fun k => 5 - k) (0) (by kernel_rfl) (UnI.start p) (by kernel_rfl) (fun k hI0 J0 hJ0 => ?_)
  have hle := hI0.le
  cases hd1 : (decide ((k : Int) < 5)) with
  | false =>
    have hp1 := of_decide_eq_false hd1
    refine run_auto [(8, .bool false)] 12 [false] [0, 1] [2] [1] (st' := ⟨[(2, pA b1)], [(b1, cO (gc (unr p k)) 70)]⟩) (acc := [(pA b1, pA b1), (pA b2, pA b2), (.bool false, .bool false), (.bool (decide ((k : Int) < 5)), .bool false)]) (by kernel_rfl) (by kernel_rfl) ⟨rfl, rfl, rfl, (bo hd1), trivial⟩ ?_
    refine run_end (fn := f98) rfl (Nat.le_refl _) (by kernel_rfl) [0] [.agg (gc (unr p k)).toArray] (e := [(pA b1, pA b1)]) (by kernel_rfl) ⟨rfl, trivial⟩ (fun w1 k1 h1 => ?_)
    exact ⟨by rw [show k = 5 by omega]; rfl, k1.keeps (fun _ h => h)⟩
  | true =>
    have hp1 := of_decide_eq_true hd1
    have hb5 := hp.bl k (by omega)
    refine run_auto [(8, .bool true)] 17 [true] [] [0, 2, 3, 7, 4, 10] [0, 1] (st' := ⟨[(0, .slice ba p.bs.length bc), (2, pA b1), (3, pA b2), (7, iV (k : Int)), (4, iV (k : Int)), (10, .agg #[iV (-20), iV (-20)])], [(b2, cO (gc (unr p k)) 70), (b1, aO #[iV 0, iV 0, iV 0, iV 0, iV 0, iV 0, iV 0, iV 0, iV 0, iV 0, iV 0, iV 0, iV 0, iV 0, iV 0, iV 0, iV 0, iV 0, iV 0, iV 0, iV 0, iV 0, iV 0, iV 0, iV 0, iV 0, iV 0, iV 0, iV 0, iV 0, iV 0, iV 0, iV 0, iV 0, iV 0, iV 0] 70)]⟩) (acc := [(.bool true, .bool true), (.bool (decide ((k : Int) < 5)), .bool true)]) (by kernel_rfl) (by kernel_rfl) ⟨rfl, (bo hd1), trivial⟩ ?_
    refine run_new (aO #[iV 0, iV 0] 23) (fun b3 => pA b3) (some 5) (fun _ => by kernel_rfl) (fun b3 hb3 => ?_)
    cases hd2 : (decide ((k : Int) < (p.bs.length : Int))) with
    | false =>
      have hp2 := of_decide_eq_false hd2
      refine run_auto [(14, .bool false)] 19 [false] [0, 0] [0, 2, 3, 7, 23, 24] [1, 2] (st' := ⟨[(0, .slice ba p.bs.length bc), (2, pA b1), (3, pA b2), (7, iV (k : Int)), (23, .iface 145 (.agg #[iV (k : Int), iV 5, iV (-20), iV (-20)])), (24, .agg #[iV 0, iV 0])], [(b2, cO (gc (unr p k)) 70), (b1, aO #[iV 0, iV 0, iV 0, iV 0, iV 0, iV 0, iV 0, iV 0, iV 0, iV 0, iV 0, iV 0, iV 0, iV 0, iV 0, iV 0, iV 0, iV 0, iV 0, iV 0, iV 0, iV 0, iV 0, iV 0, iV 0, iV 0, iV 0, iV 0, iV 0, iV 0, iV 0, iV 0, iV 0, iV 0, iV 0, iV 0] 70)]⟩) (acc := [(pA b3, pA b3), (.bool false, .bool false), (.bool (decide ((k : Int) < (p.bs.length : Int))), .bool false), (pA b3, pA b3)]) (by kernel_rfl) (by kernel_rfl) ⟨rfl, rfl, (bo hd2), rfl, trivial⟩ ?_
      refine run_wr 101 #[pA b2, .iface 145 (.agg #[iV (k : Int), iV 5, iV (-20), iV (-20)]), .agg #[iV 0, iV 0]] (some 25) (.bool (((unr p k).put k 5 ((-20)) ((-20))).isSome)) 0 b2 (cO (gc (unr p k)) 70) (cO (gc ((unr p k).putr k 5 ((-20)) ((-20)))) 70) (by kernel_rfl) (by kernel_rfl) (by kernel_rfl) (fun w1 k1 h1 => narrow_s b2 (unr p k) k 5 (-20) (-20) 0 0 w1 (by omega) (by omega) (hI0.done) (hI0.small) (by omega) (by omega) (by omega) (by omega) (h1 (b2, cO (gc (unr p k)) 70) (List.mem_of_getElem? (i := 0) (by kernel_rfl)))) ?_
      refine run_auto [(26, iV ((k + 1 : Nat) : Int))] 6 [] [] [0, 2, 3, 7] [0, 1] (st' := ⟨[(0, .slice ba p.bs.length bc), (2, pA b1), (3, pA b2), (7, iV ((k + 1 : Nat) : Int))], [(b2, cO (gc ((unr p k).putr k 5 ((-20)) ((-20)))) 70), (b1, aO #[iV 0, iV 0, iV 0, iV 0, iV 0, iV 0, iV 0, iV 0, iV 0, iV 0, iV 0, iV 0, iV 0, iV 0, iV 0, iV 0, iV 0, iV 0, iV 0, iV 0, iV 0, iV 0, iV 0, iV 0, iV 0, iV 0, iV 0, iV 0, iV 0, iV 0, iV 0, iV 0, iV 0, iV 0, iV 0, iV 0] 70)]⟩) (acc := [(iV (IntKind.i64.wrap ((k : Int) + 1)), iV ((k + 1 : Nat) : Int))]) (by kernel_rfl) (by kernel_rfl) ⟨(wr (by omega) (by omega)), trivial⟩ ?_
      rw [show gc ((unr p k).putr k 5 ((-20)) ((-20))) = gc (unr p (k + 1)) from by show _ = gc ((unr p k).putr k 5 (p.blk k).1 (p.blk k).2); rw [blk_out (by omega)]]
      exact run_round (by kernel_rfl) (hJ0 (k + 1) (hI0.next hp (by omega)) (by omega))
    | true =>
      have hp2 := of_decide_eq_true hd2
      have hlt : k < p.bs.length := by omega
      obtain ⟨b, o, rfl, hc⟩ := hb (by intro h; rw [h] at hlt; cases hlt)
      have hc := hc k hlt
      rw [blk_in hlt] at hb5
      refine run_auto [(14, .bool true)] 14 [true] [0] [0, 2, 3, 7, 4, 5, 15, 16] [0, 1, 2] (st' := ⟨[(0, .slice (some ⟨b, o, none⟩) p.bs.length bc), (2, pA b1), (3, pA b2), (7, iV (k : Int)), (4, iV (k : Int)), (5, pA b3), (15, .slice (some ⟨b, o, none⟩) p.bs.length bc), (16, iV (k : Int))], [(b3, aO #[iV (-20), iV (-20)] 23), (b2, cO (gc (unr p k)) 70), (b1, aO #[iV 0, iV 0, iV 0, iV 0, iV 0, iV 0, iV 0, iV 0, iV 0, iV 0, iV 0, iV 0, iV 0, iV 0, iV 0, iV 0, iV 0, iV 0, iV 0, iV 0, iV 0, iV 0, iV 0, iV 0, iV 0, iV 0, iV 0, iV 0, iV 0, iV 0, iV 0, iV 0, iV 0, iV 0, iV 0, iV 0] 70)]⟩) (acc := [(.bool true, .bool true), (.bool (decide ((k : Int) < (p.bs.length : Int))), .bool true), (pA b3, pA b3)]) (by kernel_rfl) (by kernel_rfl) ⟨rfl, (bo hd2), rfl, trivial⟩ ?_
      refine run_v (Instr.indexAt 27 (.slice (some ⟨b, o, none⟩) p.bs.length bc) (iV (k : Int)) >>= fun v => pure (Next.value v)) (some 17) (.pointer (some ⟨b, o + k * 2, none⟩)) (by kernel_rfl) (fun w1 k1 h1 => idx_run (e := 23) (n := 2) (by kernel_rfl) (by kernel_rfl) b o p.bs.length bc .i64 k hlt w1) ?_
      refine run_v (Instr.loadAt 23 (.pointer (some ⟨b, o + k * 2, none⟩)) >>= fun v => pure (Next.value v)) (some 18) (.agg #[iV (elB p.bs k).1, iV (elB p.bs k).2]) (by kernel_rfl) (fun w1 k1 h1 => load_in (off := 0) k1 (fun h => h) [iV (elB p.bs k).1, iV (elB p.bs k).2] (c2 hc.1 hc.2) (by kernel_rfl)) ?_
      refine run_auto [] 9 [] [0, 0] [0, 2, 3, 7, 23, 24] [1, 2] (st' := ⟨[(0, .slice (some ⟨b, o, none⟩) p.bs.length bc), (2, pA b1), (3, pA b2), (7, iV (k : Int)), (23, .iface 145 (.agg #[iV (k : Int), iV 5, iV (elB p.bs k).1, iV (elB p.bs k).2])), (24, .agg #[iV 0, iV 0])], [(b2, cO (gc (unr p k)) 70), (b1, aO #[iV 0, iV 0, iV 0, iV 0, iV 0, iV 0, iV 0, iV 0, iV 0, iV 0, iV 0, iV 0, iV 0, iV 0, iV 0, iV 0, iV 0, iV 0, iV 0, iV 0, iV 0, iV 0, iV 0, iV 0, iV 0, iV 0, iV 0, iV 0, iV 0, iV 0, iV 0, iV 0, iV 0, iV 0, iV 0, iV 0] 70)]⟩) (acc := [(pA b3, pA b3), (pA b3, pA b3)]) (by kernel_rfl) (by kernel_rfl) ⟨rfl, rfl, trivial⟩ ?_
      refine run_wr 101 #[pA b2, .iface 145 (.agg #[iV (k : Int), iV 5, iV (elB p.bs k).1, iV (elB p.bs k).2]), .agg #[iV 0, iV 0]] (some 25) (.bool (((unr p k).put k 5 ((elB p.bs k).1) ((elB p.bs k).2)).isSome)) 0 b2 (cO (gc (unr p k)) 70) (cO (gc ((unr p k).putr k 5 ((elB p.bs k).1) ((elB p.bs k).2))) 70) (by kernel_rfl) (by kernel_rfl) (by kernel_rfl) (fun w1 k1 h1 => narrow_s b2 (unr p k) k 5 (elB p.bs k).1 (elB p.bs k).2 0 0 w1 (by omega) (by omega) (hI0.done) (hI0.small) (by omega) (by omega) (by omega) (by omega) (h1 (b2, cO (gc (unr p k)) 70) (List.mem_of_getElem? (i := 0) (by kernel_rfl)))) ?_
      refine run_auto [(26, iV ((k + 1 : Nat) : Int))] 6 [] [] [0, 2, 3, 7] [0, 1] (st' := ⟨[(0, .slice (some ⟨b, o, none⟩) p.bs.length bc), (2, pA b1), (3, pA b2), (7, iV ((k + 1 : Nat) : Int))], [(b2, cO (gc ((unr p k).putr k 5 ((elB p.bs k).1) ((elB p.bs k).2))) 70), (b1, aO #[iV 0, iV 0, iV 0, iV 0, iV 0, iV 0, iV 0, iV 0, iV 0, iV 0, iV 0, iV 0, iV 0, iV 0, iV 0, iV 0, iV 0, iV 0, iV 0, iV 0, iV 0, iV 0, iV 0, iV 0, iV 0, iV 0, iV 0, iV 0, iV 0, iV 0, iV 0, iV 0, iV 0, iV 0, iV 0, iV 0] 70)]⟩) (acc := [(iV (IntKind.i64.wrap ((k : Int) + 1)), iV ((k + 1 : Nat) : Int))]) (by kernel_rfl) (by kernel_rfl) ⟨(wr (by omega) (by omega)), trivial⟩ ?_
      rw [show gc ((unr p k).putr k 5 ((elB p.bs k).1) ((elB p.bs k).2)) = gc (unr p (k + 1)) from by show _ = gc ((unr p k).putr k 5 (p.blk k).1 (p.blk k).2); rw [blk_in hlt]]
      exact run_round (by kernel_rfl) (hJ0 (k + 1) (hI0.next hp (by omega)) (by omega))

end Go.Proofs.Ythnhcacoegmdfaa

namespace Go.Proofs.Ythnhcacoegmdfaa
open Go.RowKit Go.Proofs.Try


def Pr.cells (p : Pr) : List Value := [.slice p.ba p.bs.length p.bc, .int .i64 p.zlo, .int .i64 p.zhi, .int .i64 p.rlo, .int .i64 p.rhi, .slice p.ra p.rs.length p.rc]
def compV (zlo rlo : Int) (i j : Nat) : List Value := [.agg #[.int .i64 (zlo + (i : Int)), .int .i64 (rlo + (j : Int))]]
def Pr.nz (p : Pr) : Nat := (p.zhi - p.zlo + 1).toNat
def Pr.nr (p : Pr) : Nat := (p.rhi - p.rlo + 1).toNat
/-- The comparators, in their order. -/
def Pr.compL (p : Pr) : List (List Value) := pre2 (compV p.zlo p.rlo) p.nr p.nz 0
set_option maxRecDepth 100000 in
theorem comparators_any (p : Pr) (w : World)  : Calls Try.prog 100 #[.agg #[.slice p.ba p.bs.length p.bc, .int .i64 p.zlo, .int .i64 p.zhi, .int .i64 p.rlo, .int .i64 p.rhi, .slice p.ra p.rs.length p.rc]] w (Nw (α := Unit) (fun _ b => .func (.func 108) #[] #[.pointer (some ⟨b, 0, none⟩)]) (fun _ => .cells #[.slice p.ba p.bs.length p.bc, .int .i64 p.zlo, .int .i64 p.zhi, .int .i64 p.rlo, .int .i64 p.rhi, .slice p.ra p.rs.length p.rc] 30 (0, 0)) (fun _ => True) w) := by
  refine calls_run (fn := f100) (c := (f100.body).getD .skip) [.agg #[.slice p.ba p.bs.length p.bc, .int .i64 p.zlo, .int .i64 p.zhi, .int .i64 p.rlo, .int .i64 p.rhi, .slice p.ra p.rs.length p.rc]] func100 (by kernel_rfl) (fun _ => False) [] (fun _ h => by cases h) (List.Pairwise.nil) 4 (by kernel_rfl) (by simp) ?_
  refine run_auto [] 2 [] [] [0] [] (st' := ⟨[(0, .agg #[.slice p.ba p.bs.length p.bc, iV p.zlo, iV p.zhi, iV p.rlo, iV p.rhi, .slice p.ra p.rs.length p.rc])], []⟩) (acc := []) (by kernel_rfl) (by kernel_rfl) trivial ?_
  refine run_new (aO #[.slice p.ba p.bs.length p.bc, iV p.zlo, iV p.zhi, iV p.rlo, iV p.rhi, .slice p.ra p.rs.length p.rc] 30) (fun b1 => pA b1) (some 1) (fun _ => by kernel_rfl) (fun b1 hb1 => ?_)
  refine run_auto [] 7 [] [] [2] [0] (st' := ⟨[(2, .func (.func 108) #[] #[pA b1])], [(b1, aO #[.slice p.ba p.bs.length p.bc, iV p.zlo, iV p.zhi, iV p.rlo, iV p.rhi, .slice p.ra p.rs.length p.rc] 30)]⟩) (acc := []) (by kernel_rfl) (by kernel_rfl) trivial ?_
  refine run_end (fn := f100) rfl (Nat.le_refl _) (by kernel_rfl) [] [.func (.func 108) #[] #[pA b1]] (e := []) (by kernel_rfl) trivial (fun w1 k1 h1 => ?_)
  exact ⟨(), b1, trivial, hb1, rfl, k1.keeps (fun _ h => h), h1 (b1, _) (List.mem_of_getElem? (i := 0) rfl)⟩

set_option maxRecDepth 100000 in
theorem possible_any (p : Pr) (w : World)  : Calls Try.prog 77 #[.agg #[.slice p.ba p.bs.length p.bc, .int .i64 p.zlo, .int .i64 p.zhi, .int .i64 p.rlo, .int .i64 p.rhi, .slice p.ra p.rs.length p.rc]] w (Nw (α := Unit) (fun _ b => .func (.func 97) #[] #[.pointer (some ⟨b, 0, none⟩)]) (fun _ => .cells #[.slice p.ba p.bs.length p.bc, .int .i64 p.zlo, .int .i64 p.zhi, .int .i64 p.rlo, .int .i64 p.rhi, .slice p.ra p.rs.length p.rc] 30 (0, 0)) (fun _ => True) w) := by
  refine calls_run (fn := f77) (c := (f77.body).getD .skip) [.agg #[.slice p.ba p.bs.length p.bc, .int .i64 p.zlo, .int .i64 p.zhi, .int .i64 p.rlo, .int .i64 p.rhi, .slice p.ra p.rs.length p.rc]] func77 (by kernel_rfl) (fun _ => False) [] (fun _ h => by cases h) (List.Pairwise.nil) 4 (by kernel_rfl) (by simp) ?_
  refine run_auto [] 2 [] [] [0] [] (st' := ⟨[(0, .agg #[.slice p.ba p.bs.length p.bc, iV p.zlo, iV p.zhi, iV p.rlo, iV p.rhi, .slice p.ra p.rs.length p.rc])], []⟩) (acc := []) (by kernel_rfl) (by kernel_rfl) trivial ?_
  refine run_new (aO #[.slice p.ba p.bs.length p.bc, iV p.zlo, iV p.zhi, iV p.rlo, iV p.rhi, .slice p.ra p.rs.length p.rc] 30) (fun b1 => pA b1) (some 1) (fun _ => by kernel_rfl) (fun b1 hb1 => ?_)
  refine run_auto [] 7 [] [] [2] [0] (st' := ⟨[(2, .func (.func 97) #[] #[pA b1])], [(b1, aO #[.slice p.ba p.bs.length p.bc, iV p.zlo, iV p.zhi, iV p.rlo, iV p.rhi, .slice p.ra p.rs.length p.rc] 30)]⟩) (acc := []) (by kernel_rfl) (by kernel_rfl) trivial ?_
  refine run_end (fn := f77) rfl (Nat.le_refl _) (by kernel_rfl) [] [.func (.func 97) #[] #[pA b1]] (e := []) (by kernel_rfl) trivial (fun w1 k1 h1 => ?_)
  exact ⟨(), b1, trivial, hb1, rfl, k1.keeps (fun _ h => h), h1 (b1, _) (List.mem_of_getElem? (i := 0) rfl)⟩

set_option maxRecDepth 100000 in
theorem comps_give (p : Pr) (b : Nat) (z1 : -10 ≤ p.zlo) (z2 : p.zhi ≤ 10) (r1 : -5 ≤ p.rlo) (r2 : p.rhi ≤ 5) : Gives Try.prog 108 #[.pointer (some ⟨b, 0, none⟩)] [(b, .cells #[.slice p.ba p.bs.length p.bc, .int .i64 p.zlo, .int .i64 p.zhi, .int .i64 p.rlo, .int .i64 p.rhi, .slice p.ra p.rs.length p.rc] 30 (0, 0))] (fun _ _ => True) (fun l => l <+: p.compL) (fun l => l = p.compL) := by
  intro l J Jx E0 w hE0 hst hJw hown hdis _ hy
  have hb := hown _ (List.mem_singleton.2 rfl)
  have hnd := hdis _ (List.mem_singleton.2 rfl)
  refine calls_runE (fn := f108) (c := (f108.body).getD .skip) [.func (.yield l) #[] #[], .pointer (some ⟨b, 0, none⟩)] func108 (by kernel_rfl) E0 hE0 hJw 31 (by kernel_rfl) (by simp) ?_
  refine run_auto [] 4 [] [] [0, 1, 6] [] (st' := ⟨[(0, .func (.yield l) #[] #[]), (1, .pointer (some ⟨b, 0, none⟩)), (6, .pointer (some ⟨b, 1, none⟩))], []⟩) (acc := []) (by kernel_rfl) (by kernel_rfl) trivial ?_
  refine run_v (Instr.loadAt 3 (.pointer (some ⟨b, 1, none⟩)) >>= fun v => pure (Next.value v)) (some 7) (.int .i64 p.zlo) (by kernel_rfl) (fun w1 k1 h1 => load_in (base := 0) (off := 1) k1 hnd [.slice p.ba p.bs.length p.bc, .int .i64 p.zlo, .int .i64 p.zhi, .int .i64 p.rlo, .int .i64 p.rhi, .slice p.ra p.rs.length p.rc] (fun i u hi => by rw [Nat.zero_add]; exact cells_of_heap hb i u hi) (by kernel_rfl)) ?_
  refine run_auto [] 3 [] [] [0, 1, 3] [] (st' := ⟨[(0, .func (.yield l) #[] #[]), (1, .pointer (some ⟨b, 0, none⟩)), (3, .int .i64 p.zlo)], []⟩) (acc := []) (by kernel_rfl) (by kernel_rfl) trivial ?_
  refine run_auto [] 0 [] [] [0, 1, 3] [] (st' := ⟨[(0, .func (.yield l) #[] #[]), (1, .pointer (some ⟨b, 0, none⟩)), (3, .int .i64 p.zlo)], []⟩) (acc := []) (by kernel_rfl) (by kernel_rfl) trivial ?_
  refine run_loopE (σ := Nat × Ext) (S := fun (x : Nat × Ext) => ⟨[(0, .func (.yield l) #[] #[]), (1, .pointer (some ⟨b, 0, none⟩)), (3, .int .i64 (p.zlo + (x.1 : Int)))], []⟩) (fun (x : Nat × Ext) => x.2) (fun (x : Nat × Ext) => x.1 ≤ p.nz ∧ J (pre2 (compV p.zlo p.rlo) p.nr x.1 0) x.2 ∧ x.2.n0 = E0.n0 ∧ (∀ b, b < w.heap.size → x.2.D b → E0.D b)) (fun (x : Nat × Ext) => p.nz - x.1) ((0, E0)) (by kernel_rfl) (⟨Nat.zero_le _, hst, rfl, (fun _ _ h => h)⟩) (by simp) rfl (fun x hI0 J0 hJ0 => ?_)
  obtain ⟨i, Ea⟩ := x
  obtain ⟨hl0, hJEa, hnEa, hsEa⟩ := hI0
  dsimp only at hl0 hJEa hnEa hsEa hJ0
  refine run_auto [] 6 [] [] [0, 1, 3, 8, 10] [] (st' := ⟨[(0, .func (.yield l) #[] #[]), (1, .pointer (some ⟨b, 0, none⟩)), (3, .int .i64 (p.zlo + (i : Int))), (8, .int .i64 (p.zlo + (i : Int))), (10, .pointer (some ⟨b, 2, none⟩))], []⟩) (acc := []) (by kernel_rfl) (by kernel_rfl) trivial ?_
  refine run_v (Instr.loadAt 3 (.pointer (some ⟨b, 2, none⟩)) >>= fun v => pure (Next.value v)) (some 11) (.int .i64 p.zhi) (by kernel_rfl) (fun w1 k1 h1 => load_in (base := 0) (off := 2) k1 hnd [.slice p.ba p.bs.length p.bc, .int .i64 p.zlo, .int .i64 p.zhi, .int .i64 p.rlo, .int .i64 p.rhi, .slice p.ra p.rs.length p.rc] (fun i u hi => by rw [Nat.zero_add]; exact cells_of_heap hb i u hi) (by kernel_rfl)) ?_
  cases hd1 : (decide ((p.zlo + (i : Int)) ≤ p.zhi)) with
  | false =>
    have hp1 := of_decide_eq_false hd1
    refine run_auto [(12, .bool false)] 4 [false] [] [] [] (st' := ⟨[], []⟩) (acc := [(.bool false, .bool false), (.bool (decide ((p.zlo + (i : Int)) ≤ p.zhi)), .bool false)]) (by kernel_rfl) (by kernel_rfl) ⟨rfl, (bo hd1), trivial⟩ ?_
    refine run_endE (fn := f108) rfl (Nat.le_refl _) (by kernel_rfl) [] [] (e := []) (by kernel_rfl) trivial (fun w1 k1 h1 hE1 => ?_)
    exact ⟨rfl, Ea, hnEa, hE1, .inl ⟨_, rfl, by have h := hJEa; rw [show i = p.nz by have h0 := hl0; unfold Pr.nz at h0 ⊢; omega] at h; exact h⟩⟩
  | true =>
    have hp1 := of_decide_eq_true hd1
    refine run_auto [(12, .bool true)] 10 [true] [] [0, 1, 3, 16] [] (st' := ⟨[(0, .func (.yield l) #[] #[]), (1, .pointer (some ⟨b, 0, none⟩)), (3, .int .i64 (p.zlo + (i : Int))), (16, .pointer (some ⟨b, 3, none⟩))], []⟩) (acc := [(.bool true, .bool true), (.bool (decide ((p.zlo + (i : Int)) ≤ p.zhi)), .bool true)]) (by kernel_rfl) (by kernel_rfl) ⟨rfl, (bo hd1), trivial⟩ ?_
    refine run_v (Instr.loadAt 3 (.pointer (some ⟨b, 3, none⟩)) >>= fun v => pure (Next.value v)) (some 17) (.int .i64 p.rlo) (by kernel_rfl) (fun w1 k1 h1 => load_in (base := 0) (off := 3) k1 hnd [.slice p.ba p.bs.length p.bc, .int .i64 p.zlo, .int .i64 p.zhi, .int .i64 p.rlo, .int .i64 p.rhi, .slice p.ra p.rs.length p.rc] (fun i u hi => by rw [Nat.zero_add]; exact cells_of_heap hb i u hi) (by kernel_rfl)) ?_
    refine run_auto [] 3 [] [] [0, 1, 3, 4] [] (st' := ⟨[(0, .func (.yield l) #[] #[]), (1, .pointer (some ⟨b, 0, none⟩)), (3, .int .i64 (p.zlo + (i : Int))), (4, .int .i64 p.rlo)], []⟩) (acc := []) (by kernel_rfl) (by kernel_rfl) trivial ?_
    refine run_auto [] 0 [] [] [0, 1, 3, 4] [] (st' := ⟨[(0, .func (.yield l) #[] #[]), (1, .pointer (some ⟨b, 0, none⟩)), (3, .int .i64 (p.zlo + (i : Int))), (4, .int .i64 p.rlo)], []⟩) (acc := []) (by kernel_rfl) (by kernel_rfl) trivial ?_
    refine run_loopE (σ := Nat × Ext) (S := fun (y : Nat × Ext) => ⟨[(0, .func (.yield l) #[] #[]), (1, .pointer (some ⟨b, 0, none⟩)), (3, .int .i64 (p.zlo + (i : Int))), (4, .int .i64 (p.rlo + (y.1 : Int)))], []⟩) (fun (y : Nat × Ext) => y.2) (fun (y : Nat × Ext) => y.1 ≤ p.nr ∧ J (pre2 (compV p.zlo p.rlo) p.nr i y.1) y.2 ∧ y.2.n0 = E0.n0 ∧ (∀ b, b < w.heap.size → y.2.D b → E0.D b)) (fun (y : Nat × Ext) => p.nr - y.1) ((0, Ea)) (by kernel_rfl) (⟨Nat.zero_le _, hJEa, hnEa, hsEa⟩) (by simp) rfl (fun y hI1 J1 hJ1 => ?_)
    obtain ⟨j, Eb⟩ := y
    obtain ⟨hl1, hJEb, hnEb, hsEb⟩ := hI1
    dsimp only at hl1 hJEb hnEb hsEb hJ1
    refine run_auto [] 6 [] [] [0, 1, 3, 4, 18, 20] [] (st' := ⟨[(0, .func (.yield l) #[] #[]), (1, .pointer (some ⟨b, 0, none⟩)), (3, .int .i64 (p.zlo + (i : Int))), (4, .int .i64 (p.rlo + (j : Int))), (18, .int .i64 (p.rlo + (j : Int))), (20, .pointer (some ⟨b, 4, none⟩))], []⟩) (acc := []) (by kernel_rfl) (by kernel_rfl) trivial ?_
    refine run_v (Instr.loadAt 3 (.pointer (some ⟨b, 4, none⟩)) >>= fun v => pure (Next.value v)) (some 21) (.int .i64 p.rhi) (by kernel_rfl) (fun w1 k1 h1 => load_in (base := 0) (off := 4) k1 hnd [.slice p.ba p.bs.length p.bc, .int .i64 p.zlo, .int .i64 p.zhi, .int .i64 p.rlo, .int .i64 p.rhi, .slice p.ra p.rs.length p.rc] (fun i u hi => by rw [Nat.zero_add]; exact cells_of_heap hb i u hi) (by kernel_rfl)) ?_
    cases hd2 : (decide ((p.rlo + (j : Int)) ≤ p.rhi)) with
    | false =>
      have hp2 := of_decide_eq_false hd2
      refine run_auto [(22, .bool false), (14, .int .i64 (p.zlo + ((i + 1 : Nat) : Int)))] 10 [false] [] [0, 1, 3] [] (st' := ⟨[(0, .func (.yield l) #[] #[]), (1, .pointer (some ⟨b, 0, none⟩)), (3, .int .i64 (p.zlo + ((i + 1 : Nat) : Int)))], []⟩) (acc := [(.int .i64 (IntKind.i64.wrap ((p.zlo + (i : Int)) + 1)), .int .i64 (p.zlo + ((i + 1 : Nat) : Int))), (.bool false, .bool false), (.bool (decide ((p.rlo + (j : Int)) ≤ p.rhi)), .bool false)]) (by kernel_rfl) (by kernel_rfl) ⟨((wr (by omega) (by omega)).trans (io (by omega))), rfl, (bo hd2), trivial⟩ ?_
      exact run_round (by kernel_rfl) (hJ0 ((i + 1, Eb)) (⟨by unfold Pr.nz; dsimp only; omega, by have h := hJEb; rw [show j = p.nr by have h0 := hl1; unfold Pr.nr at h0 ⊢; omega, pre2_row] at h; exact h, hnEb, hsEb⟩) (by unfold Pr.nz; dsimp only; omega))
    | true =>
      have hp2 := of_decide_eq_true hd2
      refine run_auto [(22, .bool true)] 12 [true] [] [0, 1, 3, 4, 25, 28] [] (st' := ⟨[(0, .func (.yield l) #[] #[]), (1, .pointer (some ⟨b, 0, none⟩)), (3, .int .i64 (p.zlo + (i : Int))), (4, .int .i64 (p.rlo + (j : Int))), (25, .func (.yield l) #[] #[]), (28, .agg #[.int .i64 (p.zlo + (i : Int)), .int .i64 (p.rlo + (j : Int))])], []⟩) (acc := [(.bool true, .bool true), (.bool (decide ((p.rlo + (j : Int)) ≤ p.rhi)), .bool true)]) (by kernel_rfl) (by kernel_rfl) ⟨rfl, (bo hd2), trivial⟩ ?_
      have hpre := pre2_in (compV p.zlo p.rlo) p.nr (i := i) (j := j) (n := p.nz) (by unfold Pr.nz; omega) (by unfold Pr.nr; omega)
      refine run_yield l #[.agg #[.int .i64 (p.zlo + (i : Int)), .int .i64 (p.rlo + (j : Int))]] (some 29) (by kernel_rfl) hsEb (Yt (J (pre2 (compV p.zlo p.rlo) p.nr i j ++ [compV p.zlo p.rlo i j])) Jx) (fun w1 hJ1 k1 => Ygives.out (Ygives.of (E := Eb) (hy _ (compV p.zlo p.rlo i j) Eb w1 hpre hJEb hnEb hJ1) hnEb)) (fun E3 t hok hn3 hs3 => ?_)
      have hs4 : ∀ b, b < w.heap.size → E3.D b → E0.D b := fun b hb h => (hs3 b h).elim (hsEb b hb) (fun h => absurd hb (Nat.not_lt.2 h))
      cases hd3 : t with
      | false =>
        rw [hd3] at hok
        dsimp only [Yt] at hok
        refine run_auto [(30, .bool true)] 3 [true] [] [0, 1, 3, 4] [] (st' := ⟨[(0, .func (.yield l) #[] #[]), (1, .pointer (some ⟨b, 0, none⟩)), (3, .int .i64 (p.zlo + (i : Int))), (4, .int .i64 (p.rlo + (j : Int)))], []⟩) (acc := [(.bool true, .bool true), (.bool true, .bool true)]) (by kernel_rfl) (by kernel_rfl) ⟨rfl, rfl, trivial⟩ ?_
        refine run_endE (fn := f108) rfl (Nat.le_refl _) (by kernel_rfl) [] [] (e := []) (by kernel_rfl) trivial (fun w1 k1 h1 hE1 => ?_)
        exact ⟨rfl, E3, (hn3.trans hnEb), hE1, .inr hok⟩
      | true =>
        rw [hd3] at hok
        dsimp only [Yt] at hok
        refine run_auto [(30, .bool false), (24, .int .i64 (p.rlo + ((j + 1 : Nat) : Int)))] 10 [false] [] [0, 1, 3, 4] [] (st' := ⟨[(0, .func (.yield l) #[] #[]), (1, .pointer (some ⟨b, 0, none⟩)), (3, .int .i64 (p.zlo + (i : Int))), (4, .int .i64 (p.rlo + ((j + 1 : Nat) : Int)))], []⟩) (acc := [(.int .i64 (IntKind.i64.wrap ((p.rlo + (j : Int)) + 1)), .int .i64 (p.rlo + ((j + 1 : Nat) : Int))), (.bool false, .bool false), (.bool false, .bool false)]) (by kernel_rfl) (by kernel_rfl) ⟨((wr (by omega) (by omega)).trans (io (by omega))), rfl, rfl, trivial⟩ ?_
        exact run_round (by kernel_rfl) (hJ1 ((j + 1, E3)) (⟨by unfold Pr.nr; dsimp only; omega, by have h := hok; rw [pre2_next] at h; exact h, (hn3.trans hnEb), hs4⟩) (by unfold Pr.nr; dsimp only; omega))
end Go.Proofs.Ythnhcacoegmdfaa

namespace Go.Proofs.Ythnhcacoegmdfaa
open Go.RowKit Go.Proofs.Try


/-- A reading as it lies in the row of bounds. -/
def rdC (r : Rw) : List Value := [.int .i64 r.1, .int .i64 r.2.1, .int .i64 r.2.2.2.1, .int .i64 r.2.2.2.2, .int .i64 r.2.2.1]
def zC : List Value := [.int .i64 0, .int .i64 0, .int .i64 0, .int .i64 0, .int .i64 0]
/-- The row when k of them have been written. -/
def rdF (rs : List Rw) (k i : Nat) : List Value := if i < k then rdC (elR rs i) else zC
theorem rdF_len (rs : List Rw) (k i : Nat) : (rdF rs k i).length = 5 := by unfold rdF; split <;> rfl
theorem rdF_step (rs : List Rw) (k j : Nat) : rdF rs (k + 1) j = if j = k then rdC (elR rs k) else rdF rs k j := by
  unfold rdF
  by_cases h : j = k
  · subst h
    rw [if_pos (by omega), if_pos rfl]
  · rw [if_neg h]
    by_cases h2 : j < k
    · rw [if_pos h2, if_pos (by omega)]
    · rw [if_neg h2, if_neg (by omega)]
def rdRow (rs : List Rw) : List Value := rowL rs.length (fun i => rdC (elR rs i))
theorem rdRow_is (rs : List Rw) : rowL rs.length (rdF rs rs.length) = rdRow rs := rowL_congr fun _ hi => if_pos hi
set_option maxRecDepth 100000 in
theorem readings_any (p : Pr) (w : World) (hr : Rds w p.ra p.rs) (h8 : p.rs.length ≤ 8) : Calls Try.prog 99 #[.agg #[.slice p.ba p.bs.length p.bc, .int .i64 p.zlo, .int .i64 p.zhi, .int .i64 p.rlo, .int .i64 p.rhi, .slice p.ra p.rs.length p.rc]] w (Nw (α := Unit) (fun _ b => .slice (some ⟨b, 0, none⟩) p.rs.length p.rs.length) (fun _ => .cells (rdRow p.rs).toArray 147 (0, 0)) (fun _ => True) w) := by
  refine calls_run (fn := f99) (c := (f99.body).getD .skip) [.agg #[.slice p.ba p.bs.length p.bc, .int .i64 p.zlo, .int .i64 p.zhi, .int .i64 p.rlo, .int .i64 p.rhi, .slice p.ra p.rs.length p.rc]] func99 (by kernel_rfl) (fun _ => False) [] (fun _ h => by cases h) (List.Pairwise.nil) 34 (by kernel_rfl) (by simp) ?_
  refine run_auto [] 2 [] [] [0] [] (st' := ⟨[(0, .agg #[.slice p.ba p.bs.length p.bc, iV p.zlo, iV p.zhi, iV p.rlo, iV p.rhi, .slice p.ra p.rs.length p.rc])], []⟩) (acc := []) (by kernel_rfl) (by kernel_rfl) trivial ?_
  refine run_new (aO #[.slice p.ba p.bs.length p.bc, iV p.zlo, iV p.zhi, iV p.rlo, iV p.rhi, .slice p.ra p.rs.length p.rc] 30) (fun b1 => pA b1) (some 1) (fun _ => by kernel_rfl) (fun b1 hb1 => ?_)
  refine run_auto [] 7 [] [0] [1, 2, 8] [0] (st' := ⟨[(1, pA b1), (2, .slice none 0 0), (8, iV (p.rs.length : Int))], [(b1, aO #[.slice p.ba p.bs.length p.bc, iV p.zlo, iV p.zhi, iV p.rlo, iV p.rhi, .slice p.ra p.rs.length p.rc] 30)]⟩) (acc := [(pA b1, pA b1)]) (by kernel_rfl) (by kernel_rfl) ⟨rfl, trivial⟩ ?_
  refine run_mk 141 147 5 (.agg #[iV 0, iV 0, iV 0, iV 0, iV 0]) (by kernel_rfl) (by kernel_rfl) (by kernel_rfl) rfl (by omega) (some 9) (p.rs.length) (by simp only [maxLen]; omega) (by omega) (by rw [show tyBytes _ _ = 40 from by kernel_rfl]; omega) (by kernel_rfl) (fun b2 hb2 => ?_)
  refine run_auto [] 11 [] [1] [2, 3, 11, 12, 13] [0] (st' := ⟨[(2, .slice none 0 0), (3, sV b2 p.rs.length p.rs.length), (11, .slice p.ra p.rs.length p.rc), (12, iV (p.rs.length : Int)), (13, iV 0)], [(b2, cO (rowL (p.rs.length) fun _ => [iV 0, iV 0, iV 0, iV 0, iV 0]) 147)]⟩) (acc := [(pA b1, pA b1)]) (by kernel_rfl) (by kernel_rfl) ⟨rfl, trivial⟩ ?_
  refine run_auto [] 0 [] [] [2, 3, 11, 12, 13] [0] (st' := ⟨[(2, .slice none 0 0), (3, sV b2 p.rs.length p.rs.length), (11, .slice p.ra p.rs.length p.rc), (12, iV (p.rs.length : Int)), (13, iV 0)], [(b2, cO (rowL (p.rs.length) fun _ => [iV 0, iV 0, iV 0, iV 0, iV 0]) 147)]⟩) (acc := []) (by kernel_rfl) (by kernel_rfl) trivial ?_
  refine run_loop (S := fun (k : Nat) => ⟨[(2, .slice none 0 0), (3, sV b2 p.rs.length p.rs.length), (11, .slice p.ra p.rs.length p.rc), (12, iV (p.rs.length : Int)), (13, iV (k : Int))], [(b2, cO (rowL p.rs.length (rdF p.rs k)) 147)]⟩) (fun k => k ≤ p.rs.length) (fun k => p.rs.length - k) (0) (by kernel_rfl) (Nat.zero_le _) (by kernel_rfl) (fun k hI0 J0 hJ0 => ?_)
  cases hd1 : (decide ((k : Int) < (p.rs.length : Int))) with
  | false =>
    have hp1 := of_decide_eq_false hd1
    refine run_auto [(14, .bool false)] 12 [false] [] [2] [0] (st' := ⟨[(2, sV b2 p.rs.length p.rs.length)], [(b2, cO (rowL p.rs.length (rdF p.rs k)) 147)]⟩) (acc := [(.bool false, .bool false), (.bool (decide ((k : Int) < (p.rs.length : Int))), .bool false)]) (by kernel_rfl) (by kernel_rfl) ⟨rfl, (bo hd1), trivial⟩ ?_
    refine run_end (fn := f99) rfl (Nat.le_refl _) (by kernel_rfl) [] [sV b2 p.rs.length p.rs.length] (e := []) (by kernel_rfl) trivial (fun w1 k1 h1 => ?_)
    rw [show rowL p.rs.length (rdF p.rs k) = rdRow p.rs from (by rw [show k = p.rs.length by omega]; exact rdRow_is p.rs)] at h1
    exact ⟨(), b2, trivial, hb2, rfl, k1.keeps (fun _ h => h), h1 (b2, _) (List.mem_of_getElem? (i := 0) rfl)⟩
  | true =>
    have hp1 := of_decide_eq_true hd1
    have hlt : k < p.rs.length := by omega
    obtain ⟨b, o, hba, hc⟩ := hr (by intro h; rw [h] at hlt; cases hlt)
    have hc := hc k hlt
    rw [hba] at hJ0 ⊢
    refine run_auto [(14, .bool true)] 12 [true] [] [2, 3, 11, 12, 13, 15] [0] (st' := ⟨[(2, .slice none 0 0), (3, sV b2 p.rs.length p.rs.length), (11, .slice (some ⟨b, o, none⟩) p.rs.length p.rc), (12, iV (p.rs.length : Int)), (13, iV (k : Int)), (15, iV (k : Int))], [(b2, cO (rowL p.rs.length (rdF p.rs k)) 147)]⟩) (acc := [(.bool true, .bool true), (.bool (decide ((k : Int) < (p.rs.length : Int))), .bool true)]) (by kernel_rfl) (by kernel_rfl) ⟨rfl, (bo hd1), trivial⟩ ?_
    refine run_v (Instr.indexAt 28 (.slice (some ⟨b, o, none⟩) p.rs.length p.rc) (iV (k : Int)) >>= fun v => pure (Next.value v)) (some 16) (.pointer (some ⟨b, o + k * 5, none⟩)) (by kernel_rfl) (fun w1 k1 h1 => idx_run (e := 38) (n := 5) (by kernel_rfl) (by kernel_rfl) b o p.rs.length p.rc .i64 k hlt w1) ?_
    refine run_v (Instr.loadAt 38 (.pointer (some ⟨b, o + k * 5, none⟩)) >>= fun v => pure (Next.value v)) (some 17) (.agg #[iV (elR p.rs k).1, iV (elR p.rs k).2.1, iV (elR p.rs k).2.2.1, iV (elR p.rs k).2.2.2.1, iV (elR p.rs k).2.2.2.2]) (by kernel_rfl) (fun w1 k1 h1 => load_in (off := 0) k1 (fun h => h) [iV (elR p.rs k).1, iV (elR p.rs k).2.1, iV (elR p.rs k).2.2.1, iV (elR p.rs k).2.2.2.1, iV (elR p.rs k).2.2.2.2] (c5 hc.1 hc.2.1 hc.2.2.1 hc.2.2.2.1 hc.2.2.2.2) (by kernel_rfl)) ?_
    refine run_new (aO #[iV 0, iV 0, iV 0, iV 0, iV 0] 38) (fun b3 => pA b3) (some 5) (fun _ => by kernel_rfl) (fun b3 hb3 => ?_)
    refine run_auto [] 17 [] [0, 0, 0, 0, 0] [2, 3, 11, 12, 13, 18, 19, 30] [1] (st' := ⟨[(2, .slice none 0 0), (3, sV b2 p.rs.length p.rs.length), (11, .slice (some ⟨b, o, none⟩) p.rs.length p.rc), (12, iV (p.rs.length : Int)), (13, iV (k : Int)), (18, sV b2 p.rs.length p.rs.length), (19, iV (k : Int)), (30, .agg #[iV (elR p.rs k).1, iV (elR p.rs k).2.1, iV (elR p.rs k).2.2.2.1, iV (elR p.rs k).2.2.2.2, iV (elR p.rs k).2.2.1])], [(b2, cO (rowL p.rs.length (rdF p.rs k)) 147)]⟩) (acc := [(pA b3, pA b3), (pA b3, pA b3), (pA b3, pA b3), (pA b3, pA b3), (pA b3, pA b3)]) (by kernel_rfl) (by kernel_rfl) ⟨rfl, rfl, rfl, rfl, rfl, trivial⟩ ?_
    refine run_v (Instr.indexAt 141 (sV b2 p.rs.length p.rs.length) (iV (k : Int)) >>= fun v => pure (Next.value v)) (some 31) (.pointer (some ⟨b2, k * 5, none⟩)) (by kernel_rfl) (fun w1 k1 h1 => idx_off (e := 147) (n := 5) (by kernel_rfl) (by kernel_rfl) b2 0 p.rs.length p.rs.length .i64 k (by omega) (k * 5) (by omega) w1) ?_
    refine run_store 0 b2 (k * 5) 147 (.agg #[iV (elR p.rs k).1, iV (elR p.rs k).2.1, iV (elR p.rs k).2.2.2.1, iV (elR p.rs k).2.2.2.2, iV (elR p.rs k).2.2.1]) (rowL p.rs.length (rdF p.rs k)) (rowL p.rs.length (rdF p.rs (k + 1))) 147 (by kernel_rfl) (by kernel_rfl) (row_store (n := 5) (c := rdC (elR p.rs k)) (by kernel_rfl) rfl rfl rfl (fun j _ => rdF_len p.rs k j) hlt (fun j _ => rdF_step p.rs k j)) ?_
    refine run_auto [(32, iV ((k + 1 : Nat) : Int))] 6 [] [] [2, 3, 11, 12, 13] [0] (st' := ⟨[(2, .slice none 0 0), (3, sV b2 p.rs.length p.rs.length), (11, .slice (some ⟨b, o, none⟩) p.rs.length p.rc), (12, iV (p.rs.length : Int)), (13, iV ((k + 1 : Nat) : Int))], [(b2, cO (rowL p.rs.length (rdF p.rs (k + 1))) 147)]⟩) (acc := [(iV (IntKind.i64.wrap ((k : Int) + 1)), iV ((k + 1 : Nat) : Int))]) (by kernel_rfl) (by kernel_rfl) ⟨(wr (by omega) (by omega)), trivial⟩ ?_
    exact run_round (by kernel_rfl) (hJ0 (k + 1) (by omega) (by omega))

end Go.Proofs.Ythnhcacoegmdfaa

namespace Go.Proofs.Ythnhcacoegmdfaa
open Go.RowKit Go.Proofs.Try


def Rw.n (r : Rw) : Rdg := ⟨r.1.toNat, r.2.1.toNat, r.2.2.1, r.2.2.2.1, r.2.2.2.2⟩
/-- A pair as numbers. -/
def Pr.n (p : Pr) : Prn := ⟨p.bs, p.zlo, p.zhi, p.rlo, p.rhi, p.rs.map Rw.n⟩
def elN (p : Pr) (k : Nat) : Rdg := (elR p.rs k).n
def rdN (r : Rdg) : List Value := [.int .i64 (r.a : Int), .int .i64 (r.b : Int), .int .i64 r.lo, .int .i64 r.hi, .int .i64 r.at_]
def rdRowN (p : Pr) : List Value := rowL p.rs.length (fun i => rdN (elN p i))
structure Pr.Fine (p : Pr) : Prop where
  b1 : 1 ≤ p.bs.length
  b5 : p.bs.length ≤ 5
  bl : ∀ k, k < p.bs.length → -20 ≤ (elB p.bs k).1 ∧ (elB p.bs k).1 ≤ (elB p.bs k).2 ∧ (elB p.bs k).2 ≤ 20
  z : -10 ≤ p.zlo ∧ p.zlo ≤ p.zhi ∧ p.zhi ≤ 10
  zw : p.zhi - p.zlo ≤ 4
  r : -5 ≤ p.rlo ∧ p.rlo ≤ p.rhi ∧ p.rhi ≤ 5
  rw_ : p.rhi - p.rlo ≤ 4
  r8 : p.rs.length ≤ 8
  rd : ∀ k, k < p.rs.length → (0 ≤ (elR p.rs k).1 ∧ (elR p.rs k).1 < p.bs.length) ∧ (0 ≤ (elR p.rs k).2.1 ∧ (elR p.rs k).2.1 < p.bs.length) ∧ (elR p.rs k).1 ≠ (elR p.rs k).2.1 ∧ (0 ≤ (elR p.rs k).2.2.1 ∧ (elR p.rs k).2.2.1 ≤ 60) ∧ -80 ≤ (elR p.rs k).2.2.2.1 ∧ (elR p.rs k).2.2.2.1 ≤ (elR p.rs k).2.2.2.2 ∧ (elR p.rs k).2.2.2.2 ≤ 80
theorem all_at {α : Type} {q : α → Bool} {l : List α} (h : l.all q = true) {k : Nat} (hk : k < l.length) (d : α) : q (l[k]?.getD d) = true := by
  rw [List.getElem?_eq_getElem hk]
  exact List.all_eq_true.1 h _ (List.getElem_mem hk)
theorem Pr.fine {p : Pr} (h : p.ok = true) : p.Fine := by
  unfold Pr.ok at h
  simp only [Bool.and_eq_true, decide_eq_true_eq] at h
  obtain ⟨⟨⟨⟨⟨h1, h2⟩, h3⟩, h4⟩, h5⟩, h6⟩ := h
  unfold vBls at h1
  unfold vRds at h6
  simp only [Bool.and_eq_true, decide_eq_true_eq] at h1 h6
  refine ⟨h1.1.1, h1.1.2, fun k hk => inS_bd (all_at h1.2 hk (0, 0)), inS_bd h2, h3, inS_bd h4, h5, h6.1, fun k hk => ?_⟩
  have h7 := all_at h6.2 hk (0, 0, 0, 0, 0)
  unfold vRd blkB minB at h7
  simp only [Bool.and_eq_true, decide_eq_true_eq, Bool.not_eq_true', beq_eq_false_iff_ne] at h7
  obtain ⟨⟨⟨⟨q1, q2⟩, q3⟩, q4⟩, q5⟩ := h7
  exact ⟨q1, q2, q3, q4, inS_bd q5⟩
theorem elN_a {p : Pr} (h : p.Fine) {k : Nat} (hk : k < p.rs.length) : (((elN p k).a : Nat) : Int) = (elR p.rs k).1 ∧ (((elN p k).b : Nat) : Int) = (elR p.rs k).2.1 := by
  have := h.rd k hk
  exact ⟨Int.toNat_of_nonneg this.1.1, Int.toNat_of_nonneg this.2.1.1⟩
theorem rdRow_n {p : Pr} (h : p.Fine) : rdRow p.rs = rdRowN p := rowL_congr fun i hi => by
  unfold rdC rdN
  rw [(elN_a h hi).1, (elN_a h hi).2]
  rfl
theorem Pr.Fine.ok {p : Pr} (h : p.Fine) : p.n.Ok := by
  refine ⟨fun i hi => ?_, fun r hr => ?_⟩
  · by_cases hl : i < p.bs.length
    · rw [blk_in (p := p.n) hl]
      exact h.bl i hl
    · rw [blk_out (p := p.n) hl]
      dsimp only
      omega
  · obtain ⟨q, hq, rfl⟩ := List.mem_map.1 hr
    obtain ⟨k, hk, rfl⟩ := List.getElem_of_mem hq
    have h1 := h.rd k hk
    have e : elR p.rs k = p.rs[k] := by unfold elR; rw [List.getElem?_eq_getElem hk]; rfl
    rw [e] at h1
    have := h.b5
    unfold Rw.n
    dsimp only
    omega
theorem UnI.all {p : Prn} (hp : p.Ok) : UnI p 5 := (((((UnI.start p).next hp (by omega)).next hp (by omega)).next hp (by omega)).next hp (by omega)).next hp (by omega)
theorem rs_at {p : Pr} {k : Nat} (hk : k < p.rs.length) : p.n.rs[k]? = some (elN p k) := by
  show (p.rs.map Rw.n)[k]? = _
  rw [List.getElem?_map, List.getElem?_eq_getElem hk]
  unfold elN elR
  rw [List.getElem?_eq_getElem hk]
  rfl
/-- What is written down with the first k readings. -/
def lf (p : Pr) (c : Int × Int) : Nat → Gp
  | 0 => unr p.n 5
  | k + 1 => (lf p c k).putr (elN p k).a (elN p k).b ((elN p k).lo - shw c (elN p k).at_) ((elN p k).hi - shw c (elN p k).at_)
structure LfI (p : Pr) (c : Int × Int) (k : Nat) : Prop where
  le : k ≤ p.rs.length
  done : (lf p c k).Done 6
  small : (lf p c k).Small 6 40
  puts : (unr p.n 5).puts ((p.n.rs.take k).map (Rdg.bd c)) = some (lf p c k)
theorem LfI.start {p : Pr} (h : UnI p.n 5) (c : Int × Int) : LfI p c 0 := ⟨Nat.zero_le _, h.done, h.small, rfl⟩
theorem LfI.more {p : Pr} {c : Int × Int} {k : Nat} (h : LfI p c k) (hk : k < p.rs.length) : (unr p.n 5).puts ((p.n.rs.take (k + 1)).map (Rdg.bd c)) = (lf p c k).put (elN p k).a (elN p k).b ((elN p k).lo - shw c (elN p k).at_) ((elN p k).hi - shw c (elN p k).at_) := by
  rw [List.take_add_one, rs_at hk, List.map_append, Gp.puts_append, h.puts]
  show (lf p c k).puts [_] = _
  unfold Gp.puts Rdg.bd
  dsimp only
  cases (lf p c k).put (elN p k).a (elN p k).b ((elN p k).lo - shw c (elN p k).at_) ((elN p k).hi - shw c (elN p k).at_) <;> rfl
theorem LfI.next {p : Pr} {c : Int × Int} {k : Nat} (hf : p.Fine) (h : LfI p c k) (hk : k < p.rs.length) (ht : ((lf p c k).put (elN p k).a (elN p k).b ((elN p k).lo - shw c (elN p k).at_) ((elN p k).hi - shw c (elN p k).at_)).isSome = true) : LfI p c (k + 1) := by
  obtain ⟨g, hg⟩ := Option.isSome_iff_exists.1 ht
  have h1 := h.more hk
  rw [hg] at h1
  have h3 : lf p c (k + 1) = g := Gp.putr_some hg
  rw [← h3] at h1 hg
  have h4 := h.done
  have h5 := (hf.ok).rl (elN p k) (List.mem_of_getElem? (rs_at hk))
  exact ⟨hk, (Gp.put_some h4 (by omega) (by omega) hg).1, Gp.Small.put h.small hg, h1⟩
theorem LfI.left {p : Pr} {c : Int × Int} (h5 : UnI p.n 5) : p.n.left c = (unr p.n 5).puts (p.n.rs.map (Rdg.bd c)) := by
  unfold Prn.left
  rw [unread_is h5]
  rfl
theorem LfI.none {p : Pr} {c : Int × Int} {k : Nat} (h5 : UnI p.n 5) (h : LfI p c k) (hk : k < p.rs.length) (ht : ((lf p c k).put (elN p k).a (elN p k).b ((elN p k).lo - shw c (elN p k).at_) ((elN p k).hi - shw c (elN p k).at_)).isSome = false) : p.n.left c = none := by
  have h1 := h.more hk
  rw [Option.isSome_eq_false_iff, Option.isNone_iff_eq_none] at ht
  rw [ht] at h1
  rw [LfI.left h5, ← List.take_append_drop (k + 1) p.n.rs, List.map_append, Gp.puts_append, h1]
  rfl
theorem LfI.all {p : Pr} {c : Int × Int} {k : Nat} (h5 : UnI p.n 5) (h : LfI p c k) (hk : k = p.rs.length) : p.n.left c = some (lf p c k) := by
  have h1 := h.puts
  rw [List.take_of_length_le (by show (p.rs.map Rw.n).length ≤ k; simp [hk])] at h1
  rw [LfI.left h5, h1]
-- ---- what is given
def knV (k : (Int × Int) × Gp) : List Value := [.agg #[.int .i64 k.1.1, .int .i64 k.1.2], .agg (gc k.2).toArray]
def intV : Value → Int
  | .int _ x => x
  | _ => 0
def cOf (x : List Value) : Int × Int := match x with
  | [.agg a] => (intV (a.getD 0 undef), intV (a.getD 1 undef))
  | _ => (0, 0)
def givenOf (p : Pr) (pre : List (List Value)) : List (List Value) := pre.filterMap fun x => (p.n.left (cOf x)).map fun g => knV (cOf x, g)
def Pr.knL (p : Pr) : List (List Value) := p.n.known.map knV
theorem compL_is (p : Pr) : p.compL = p.n.comps.map fun c => [.agg #[.int .i64 c.1, .int .i64 c.2]] := by
  unfold Pr.compL pre2 Prn.comps Pr.nr Pr.nz
  rw [List.map_flatMap]
  simp only [List.range_zero, List.map_nil, List.append_nil, List.map_map]
  rfl
theorem given_all (p : Pr) : givenOf p p.compL = p.knL := by
  unfold givenOf Pr.knL Prn.known
  rw [compL_is, List.filterMap_map, List.map_filterMap]
  congr 1
  funext c
  show Option.map (fun g => knV (c, g)) (p.n.left c) = _
  cases p.n.left c <;> rfl
theorem given_none {p : Pr} {z r : Int} (h : p.n.left (z, r) = none) (pre : List (List Value)) : givenOf p (pre ++ [[.agg #[.int .i64 z, .int .i64 r]]]) = givenOf p pre := by
  unfold givenOf
  rw [List.filterMap_append, List.filterMap_cons_none (by show Option.map (fun g => knV ((z, r), g)) (p.n.left (z, r)) = Option.none; rw [h]; rfl)]
  simp
theorem given_some {p : Pr} {z r : Int} {g : Gp} (h : p.n.left (z, r) = some g) (pre : List (List Value)) : givenOf p (pre ++ [[.agg #[.int .i64 z, .int .i64 r]]]) = givenOf p pre ++ [knV ((z, r), g)] := by
  unfold givenOf
  rw [List.filterMap_append, List.filterMap_cons_some (b := knV ((z, r), g)) (by show Option.map (fun g => knV ((z, r), g)) (p.n.left (z, r)) = some _; rw [h]; rfl)]
  simp
theorem given_pre {p : Pr} {z r : Int} {g : Gp} (h : p.n.left (z, r) = some g) {pre : List (List Value)} (hp : pre ++ [[.agg #[.int .i64 z, .int .i64 r]]] <+: p.compL) : givenOf p pre ++ [knV ((z, r), g)] <+: p.knL := by
  obtain ⟨t, ht⟩ := hp
  rw [← given_some h, ← given_all, ← ht]
  unfold givenOf
  rw [List.filterMap_append (l := pre ++ _)]
  exact List.prefix_append _ _
theorem comp_in {p : Pr} {x : List Value} (h : x ∈ p.compL) : ∃ z r : Int, x = [.agg #[.int .i64 z, .int .i64 r]] ∧ (p.zlo ≤ z ∧ z ≤ p.zhi) ∧ p.rlo ≤ r ∧ r ≤ p.rhi := by
  rw [compL_is] at h
  obtain ⟨c, hc, rfl⟩ := List.mem_map.1 h
  exact ⟨c.1, c.2, rfl, Prn.mem_comps.1 hc⟩
end Go.Proofs.Ythnhcacoegmdfaa

namespace Go.Proofs.Ythnhcacoegmdfaa
open Go.RowKit Go.Proofs.Try


/-- The pair's rows lie where nobody else writes. -/
structure Pr.InD (p : Pr) (D : Nat → Prop) (w : World) : Prop where
  bl : p.bs ≠ [] → ∃ b o, p.ba = some ⟨b, o, none⟩ ∧ ¬ D b ∧ ∀ i, i < p.bs.length → w.cell? ⟨b, o + i * 2, none⟩ = some (.int .i64 (elB p.bs i).1) ∧ w.cell? ⟨b, o + i * 2 + 1, none⟩ = some (.int .i64 (elB p.bs i).2)
  rd : p.rs ≠ [] → ∃ b o, p.ra = some ⟨b, o, none⟩ ∧ ¬ D b ∧ ∀ i, i < p.rs.length → w.cell? ⟨b, o + i * 5, none⟩ = some (.int .i64 (elR p.rs i).1) ∧ w.cell? ⟨b, o + i * 5 + 1, none⟩ = some (.int .i64 (elR p.rs i).2.1) ∧
    w.cell? ⟨b, o + i * 5 + 2, none⟩ = some (.int .i64 (elR p.rs i).2.2.1) ∧ w.cell? ⟨b, o + i * 5 + 3, none⟩ = some (.int .i64 (elR p.rs i).2.2.2.1) ∧ w.cell? ⟨b, o + i * 5 + 4, none⟩ = some (.int .i64 (elR p.rs i).2.2.2.2)
theorem Pr.InD.at {p : Pr} {D : Nat → Prop} {w w' : World} (h : p.InD D w) (k : Kept D w w') : Bls w' p.ba p.bs ∧ Rds w' p.ra p.rs := by
  refine ⟨fun hx => ?_, fun hx => ?_⟩
  · obtain ⟨b, o, e, hd, hc⟩ := h.bl hx
    exact ⟨b, o, e, fun i hi => ⟨k.cell (hc i hi).1 hd, k.cell (hc i hi).2 hd⟩⟩
  · obtain ⟨b, o, e, hd, hc⟩ := h.rd hx
    exact ⟨b, o, e, fun i hi => ⟨k.cell (hc i hi).1 hd, k.cell (hc i hi).2.1 hd, k.cell (hc i hi).2.2.1 hd, k.cell (hc i hi).2.2.2.1 hd, k.cell (hc i hi).2.2.2.2 hd⟩⟩
theorem Pr.In.inD {p : Pr} {D : Nat → Prop} {w : World} (h : p.In w) (hD : ∀ b, b < w.heap.size → ¬ D b) : p.InD D w := by
  refine ⟨fun hx => ?_, fun hx => ?_⟩
  · obtain ⟨b, o, e, hc⟩ := h.bl hx
    have := (hc 0 (by cases hb : p.bs with | nil => exact absurd hb hx | cons _ _ => simp)).1
    exact ⟨b, o, e, hD b (lt_of_cell this), hc⟩
  · obtain ⟨b, o, e, hc⟩ := h.rd hx
    have := (hc 0 (by cases hb : p.rs with | nil => exact absurd hb hx | cons _ _ => simp)).1
    exact ⟨b, o, e, hD b (lt_of_cell this), hc⟩
set_option maxRecDepth 100000 in
theorem possible_give (p : Pr) (hF : p.Fine) (b : Nat) : Gives Try.prog 97 #[.pointer (some ⟨b, 0, none⟩)] [(b, .cells #[.slice p.ba p.bs.length p.bc, .int .i64 p.zlo, .int .i64 p.zhi, .int .i64 p.rlo, .int .i64 p.rhi, .slice p.ra p.rs.length p.rc] 30 (0, 0))] p.InD (fun l => l <+: p.knL) (fun l => l = p.knL) := by
  intro l J Jx E0 w hE0 hst hJw hown hdis hin hy
  have hb := hown _ (List.mem_singleton.2 rfl)
  have hnd := hdis _ (List.mem_singleton.2 rfl)
  have hU := UnI.all hF.ok
  have h8 := hF.r8
  refine calls_runE (fn := f97) (c := (f97.body).getD .skip) [.func (.yield l) #[] #[], .pointer (some ⟨b, 0, none⟩)] func97 (by kernel_rfl) E0 hE0 hJw 35 (by kernel_rfl) (by simp) ?_
  refine run_auto [] 2 [] [] [0, 1] [] (st' := ⟨[(0, .func (.yield l) #[] #[]), (1, .pointer (some ⟨b, 0, none⟩))], []⟩) (acc := []) (by kernel_rfl) (by kernel_rfl) trivial ?_
  refine run_new (.cells #[.func (.yield l) #[] #[]] 139 (0, 0)) (fun b1 => .pointer (some ⟨b1, 0, none⟩)) (some 2) (fun _ => by kernel_rfl) (fun b1 hb1 => ?_)
  refine run_auto [] 1 [] [] [1, 2] [0] (st' := ⟨[(1, .pointer (some ⟨b, 0, none⟩)), (2, .pointer (some ⟨b1, 0, none⟩))], [(b1, .cells #[.func (.yield l) #[] #[]] 139 (0, 0))]⟩) (acc := []) (by kernel_rfl) (by kernel_rfl) trivial ?_
  refine run_scope rfl (fun _ _ _ h => h) rfl ?_
  refine run_auto [] 3 [] [] [1, 2, 9] [0] (st' := ⟨[(1, .pointer (some ⟨b, 0, none⟩)), (2, .pointer (some ⟨b1, 0, none⟩)), (9, .pointer (some ⟨b, 0, none⟩))], [(b1, .cells #[.func (.yield l) #[] #[]] 139 (0, 0))]⟩) (acc := []) (by kernel_rfl) (by kernel_rfl) trivial ?_
  refine run_v (Instr.loadAt 27 (.pointer (some ⟨b, 0, none⟩)) >>= fun v => pure (Next.value v)) (some 10) (.slice p.ba p.bs.length p.bc) (by kernel_rfl) (fun w1 k1 h1 => load_in (base := 0) (off := 0) k1 hnd [.slice p.ba p.bs.length p.bc, .int .i64 p.zlo, .int .i64 p.zhi, .int .i64 p.rlo, .int .i64 p.rhi, .slice p.ra p.rs.length p.rc] (fun i u hi => by rw [Nat.zero_add]; exact cells_of_heap hb i u hi) (by kernel_rfl)) ?_
  refine run_ret1 98 #[.slice p.ba p.bs.length p.bc] (some 11) (.agg (gc (unr p.n 5)).toArray) (by kernel_rfl) (fun w1 k1 h1 => unread_any p.n p.ba p.bc w1 (hin.at k1).1 (by have := hF.b5; show p.bs.length ≤ maxLen; simp only [maxLen]; omega) hF.ok) ?_
  refine run_new (.cells #[.int .i64 0, .int .i64 0, .int .i64 0, .int .i64 0, .int .i64 0, .int .i64 0, .int .i64 0, .int .i64 0, .int .i64 0, .int .i64 0, .int .i64 0, .int .i64 0, .int .i64 0, .int .i64 0, .int .i64 0, .int .i64 0, .int .i64 0, .int .i64 0, .int .i64 0, .int .i64 0, .int .i64 0, .int .i64 0, .int .i64 0, .int .i64 0, .int .i64 0, .int .i64 0, .int .i64 0, .int .i64 0, .int .i64 0, .int .i64 0, .int .i64 0, .int .i64 0, .int .i64 0, .int .i64 0, .int .i64 0, .int .i64 0] 70 (0, 0)) (fun b2 => .pointer (some ⟨b2, 0, none⟩)) (some 3) (fun _ => by kernel_rfl) (fun b2 hb2 => ?_)
  refine run_auto [] 4 [] [0] [1, 2, 3] [0, 1] (st' := ⟨[(1, .pointer (some ⟨b, 0, none⟩)), (2, .pointer (some ⟨b1, 0, none⟩)), (3, .pointer (some ⟨b2, 0, none⟩))], [(b2, .cells (gc (unr p.n 5)).toArray 70 (0, 0)), (b1, .cells #[.func (.yield l) #[] #[]] 139 (0, 0))]⟩) (acc := [(.pointer (some ⟨b2, 0, none⟩), .pointer (some ⟨b2, 0, none⟩))]) (by kernel_rfl) (by kernel_rfl) ⟨rfl, trivial⟩ ?_
  refine run_v (Instr.loadAt 30 (.pointer (some ⟨b, 0, none⟩)) >>= fun v => pure (Next.value v)) (some 12) (.agg #[.slice p.ba p.bs.length p.bc, .int .i64 p.zlo, .int .i64 p.zhi, .int .i64 p.rlo, .int .i64 p.rhi, .slice p.ra p.rs.length p.rc]) (by kernel_rfl) (fun w1 k1 h1 => load_in (base := 0) (off := 0) k1 hnd [.slice p.ba p.bs.length p.bc, .int .i64 p.zlo, .int .i64 p.zhi, .int .i64 p.rlo, .int .i64 p.rhi, .slice p.ra p.rs.length p.rc] (fun i u hi => by rw [Nat.zero_add]; exact cells_of_heap hb i u hi) (by kernel_rfl)) ?_
  refine run_nw 99 #[.agg #[.slice p.ba p.bs.length p.bc, .int .i64 p.zlo, .int .i64 p.zhi, .int .i64 p.rlo, .int .i64 p.rhi, .slice p.ra p.rs.length p.rc]] (some 13) (α := Unit) (fun _u b3 => .slice (some ⟨b3, 0, none⟩) p.rs.length p.rs.length) (fun _u => .cells (rdRowN p).toArray 147 (0, 0)) (fun _u => True) (by kernel_rfl) (fun _ => rfl) (fun w1 k1 h1 => (by have h := readings_any p w1 (hin.at k1).2 hF.r8; rw [rdRow_n hF] at h; exact h)) (fun _u b3 hIb3 hb3 => ?_)
  refine run_new (.cells #[.slice none 0 0] 141 (0, 0)) (fun b4 => .pointer (some ⟨b4, 0, none⟩)) (some 4) (fun _ => by kernel_rfl) (fun b4 hb4 => ?_)
  refine run_auto [] 6 [] [0] [1, 2, 3, 4] [0, 1, 2, 3] (st' := ⟨[(1, .pointer (some ⟨b, 0, none⟩)), (2, .pointer (some ⟨b1, 0, none⟩)), (3, .pointer (some ⟨b2, 0, none⟩)), (4, .pointer (some ⟨b4, 0, none⟩))], [(b4, .cells #[.slice (some ⟨b3, 0, none⟩) p.rs.length p.rs.length] 141 (0, 0)), (b3, .cells (rdRowN p).toArray 147 (0, 0)), (b2, .cells (gc (unr p.n 5)).toArray 70 (0, 0)), (b1, .cells #[.func (.yield l) #[] #[]] 139 (0, 0))]⟩) (acc := [(.pointer (some ⟨b4, 0, none⟩), .pointer (some ⟨b4, 0, none⟩))]) (by kernel_rfl) (by kernel_rfl) ⟨rfl, trivial⟩ ?_
  refine run_v (Instr.loadAt 30 (.pointer (some ⟨b, 0, none⟩)) >>= fun v => pure (Next.value v)) (some 14) (.agg #[.slice p.ba p.bs.length p.bc, .int .i64 p.zlo, .int .i64 p.zhi, .int .i64 p.rlo, .int .i64 p.rhi, .slice p.ra p.rs.length p.rc]) (by kernel_rfl) (fun w1 k1 h1 => load_in (base := 0) (off := 0) k1 hnd [.slice p.ba p.bs.length p.bc, .int .i64 p.zlo, .int .i64 p.zhi, .int .i64 p.rlo, .int .i64 p.rhi, .slice p.ra p.rs.length p.rc] (fun i u hi => by rw [Nat.zero_add]; exact cells_of_heap hb i u hi) (by kernel_rfl)) ?_
  refine run_nw 100 #[.agg #[.slice p.ba p.bs.length p.bc, .int .i64 p.zlo, .int .i64 p.zhi, .int .i64 p.rlo, .int .i64 p.rhi, .slice p.ra p.rs.length p.rc]] (some 15) (α := Unit) (fun _u b5 => .func (.func 108) #[] #[.pointer (some ⟨b5, 0, none⟩)]) (fun _u => .cells #[.slice p.ba p.bs.length p.bc, .int .i64 p.zlo, .int .i64 p.zhi, .int .i64 p.rlo, .int .i64 p.rhi, .slice p.ra p.rs.length p.rc] 30 (0, 0)) (fun _u => True) (by kernel_rfl) (fun _ => rfl) (fun w1 k1 h1 => comparators_any p w1) (fun _u b5 hIb5 hb5 => ?_)
  refine run_auto [] 2 [] [] [2, 3, 4, 15] [0, 1, 2, 3, 4] (st' := ⟨[(2, .pointer (some ⟨b1, 0, none⟩)), (3, .pointer (some ⟨b2, 0, none⟩)), (4, .pointer (some ⟨b4, 0, none⟩)), (15, .func (.func 108) #[] #[.pointer (some ⟨b5, 0, none⟩)])], [(b5, .cells #[.slice p.ba p.bs.length p.bc, .int .i64 p.zlo, .int .i64 p.zhi, .int .i64 p.rlo, .int .i64 p.rhi, .slice p.ra p.rs.length p.rc] 30 (0, 0)), (b4, .cells #[.slice (some ⟨b3, 0, none⟩) p.rs.length p.rs.length] 141 (0, 0)), (b3, .cells (rdRowN p).toArray 147 (0, 0)), (b2, .cells (gc (unr p.n 5)).toArray 70 (0, 0)), (b1, .cells #[.func (.yield l) #[] #[]] 139 (0, 0))]⟩) (acc := []) (by kernel_rfl) (by kernel_rfl) trivial ?_
  refine run_auto [] 0 [] [] [2, 3, 4, 15] [0, 1, 2, 3, 4] (st' := ⟨[(2, .pointer (some ⟨b1, 0, none⟩)), (3, .pointer (some ⟨b2, 0, none⟩)), (4, .pointer (some ⟨b4, 0, none⟩)), (15, .func (.func 108) #[] #[.pointer (some ⟨b5, 0, none⟩)])], [(b5, .cells #[.slice p.ba p.bs.length p.bc, .int .i64 p.zlo, .int .i64 p.zhi, .int .i64 p.rlo, .int .i64 p.rhi, .slice p.ra p.rs.length p.rc] 30 (0, 0)), (b4, .cells #[.slice (some ⟨b3, 0, none⟩) p.rs.length p.rs.length] 141 (0, 0)), (b3, .cells (rdRowN p).toArray 147 (0, 0)), (b2, .cells (gc (unr p.n 5)).toArray 70 (0, 0)), (b1, .cells #[.func (.yield l) #[] #[]] 139 (0, 0))]⟩) (acc := []) (by kernel_rfl) (by kernel_rfl) trivial ?_
  refine run_range (σ := Ext) (τ := Ext) 108 #[.pointer (some ⟨b5, 0, none⟩)] [16] [(b5, .cells #[.slice p.ba p.bs.length p.bc, .int .i64 p.zlo, .int .i64 p.zhi, .int .i64 p.rlo, .int .i64 p.rhi, .slice p.ra p.rs.length p.rc] 30 (0, 0))] [(b4, .cells #[.slice (some ⟨b3, 0, none⟩) p.rs.length p.rs.length] 141 (0, 0)), (b3, .cells (rdRowN p).toArray 147 (0, 0)), (b2, .cells (gc (unr p.n 5)).toArray 70 (0, 0)), (b1, .cells #[.func (.yield l) #[] #[]] 139 (0, 0))] (fun _ _ => True) (fun l => l <+: p.compL) (fun l => l = p.compL) (by kernel_rfl) rfl rfl (fun l => by kernel_rfl) rfl (by kernel_rfl) (fun pre x hx => by obtain ⟨z, r, rfl, _⟩ := comp_in (x := x) (List.IsPrefix.subset hx (by simp)); rfl) (comps_give p b5 (by have := hF.z; omega) (by have := hF.z; omega) (by have := hF.r; omega) (by have := hF.r; omega)) (fun _ _ _ _ => trivial)
    (fun s => [(b4, .cells #[.slice (some ⟨b3, 0, none⟩) p.rs.length p.rs.length] 141 (0, 0)), (b3, .cells (rdRowN p).toArray 147 (0, 0)), (b2, .cells (gc (unr p.n 5)).toArray 70 (0, 0)), (b1, .cells #[.func (.yield l) #[] #[]] 139 (0, 0))]) (fun s => s) (fun pre s => J (givenOf p pre) s ∧ s.n0 = E0.n0 ∧ (∀ b, b < w.heap.size → s.D b → E0.D b)) (fun y => [(b4, .cells #[.slice (some ⟨b3, 0, none⟩) p.rs.length p.rs.length] 141 (0, 0)), (b3, .cells (rdRowN p).toArray 147 (0, 0)), (b2, .cells (gc (unr p.n 5)).toArray 70 (0, 0)), (b1, .cells #[.func (.yield l) #[] #[]] 139 (0, 0))]) (fun y => y) (fun c y => c = .ret ∧ Jx y ∧ y.n0 = E0.n0) (E0) (⟨hst, rfl, fun _ _ h => h⟩) rfl rfl (fun pre s h => ⟨h.2.1, h.2.2⟩) (fun c y h => h.2.2)
    (fun pre x s hpre hI l0 ms ro ob w0 Jb Jn Je hkk hll hbeg hnext hexit => ?_) (fun ys s hys hI => ?_) (fun c y hI => ?_)
  · skip
    have hpre : pre ++ [x] <+: p.compL := hpre
    obtain ⟨z, r, rfl, ⟨hz1, hz2⟩, hr1, hr2⟩ := comp_in (x := x) (hpre.mem (by simp))
    obtain ⟨hJs, hns, hsD⟩ := hI
    have hz := hF.z
    have hr := hF.r
    refine run_auto [] 1 [] [] [2, 3, 4, 16] [0, 1, 2, 3] (st' := ⟨[(2, .pointer (some ⟨b1, 0, none⟩)), (3, .pointer (some ⟨b2, 0, none⟩)), (4, .pointer (some ⟨b4, 0, none⟩)), (16, .agg #[.int .i64 z, .int .i64 r])], [(b4, .cells #[.slice (some ⟨b3, 0, none⟩) p.rs.length p.rs.length] 141 (0, 0)), (b3, .cells (rdRowN p).toArray 147 (0, 0)), (b2, .cells (gc (unr p.n 5)).toArray 70 (0, 0)), (b1, .cells #[.func (.yield l) #[] #[]] 139 (0, 0))]⟩) (acc := []) (by kernel_rfl) (by kernel_rfl) trivial ?_
    refine run_new (.cells #[.int .i64 0, .int .i64 0] 79 (0, 0)) (fun b6 => .pointer (some ⟨b6, 0, none⟩)) (some 5) (fun _ => by kernel_rfl) (fun b6 hb6 => ?_)
    refine run_auto [] 2 [] [0] [2, 3, 4, 5] [0, 1, 2, 3, 4] (st' := ⟨[(2, .pointer (some ⟨b1, 0, none⟩)), (3, .pointer (some ⟨b2, 0, none⟩)), (4, .pointer (some ⟨b4, 0, none⟩)), (5, .pointer (some ⟨b6, 0, none⟩))], [(b6, .cells #[.int .i64 z, .int .i64 r] 79 (0, 0)), (b4, .cells #[.slice (some ⟨b3, 0, none⟩) p.rs.length p.rs.length] 141 (0, 0)), (b3, .cells (rdRowN p).toArray 147 (0, 0)), (b2, .cells (gc (unr p.n 5)).toArray 70 (0, 0)), (b1, .cells #[.func (.yield l) #[] #[]] 139 (0, 0))]⟩) (acc := [(.pointer (some ⟨b6, 0, none⟩), .pointer (some ⟨b6, 0, none⟩))]) (by kernel_rfl) (by kernel_rfl) ⟨rfl, trivial⟩ ?_
    refine run_round rfl (hbeg _ ?_)
    refine run_auto [] 4 [] [3] [2, 4, 5, 17] [0, 1, 2, 3, 4] (st' := ⟨[(2, .pointer (some ⟨b1, 0, none⟩)), (4, .pointer (some ⟨b4, 0, none⟩)), (5, .pointer (some ⟨b6, 0, none⟩)), (17, .agg (gc (unr p.n 5)).toArray)], [(b6, .cells #[.int .i64 z, .int .i64 r] 79 (0, 0)), (b4, .cells #[.slice (some ⟨b3, 0, none⟩) p.rs.length p.rs.length] 141 (0, 0)), (b3, .cells (rdRowN p).toArray 147 (0, 0)), (b2, .cells (gc (unr p.n 5)).toArray 70 (0, 0)), (b1, .cells #[.func (.yield l) #[] #[]] 139 (0, 0))]⟩) (acc := [(.pointer (some ⟨b2, 0, none⟩), .pointer (some ⟨b2, 0, none⟩))]) (by kernel_rfl) (by kernel_rfl) ⟨rfl, trivial⟩ ?_
    refine run_new (.cells #[.int .i64 0, .int .i64 0, .int .i64 0, .int .i64 0, .int .i64 0, .int .i64 0, .int .i64 0, .int .i64 0, .int .i64 0, .int .i64 0, .int .i64 0, .int .i64 0, .int .i64 0, .int .i64 0, .int .i64 0, .int .i64 0, .int .i64 0, .int .i64 0, .int .i64 0, .int .i64 0, .int .i64 0, .int .i64 0, .int .i64 0, .int .i64 0, .int .i64 0, .int .i64 0, .int .i64 0, .int .i64 0, .int .i64 0, .int .i64 0, .int .i64 0, .int .i64 0, .int .i64 0, .int .i64 0, .int .i64 0, .int .i64 0] 70 (0, 0)) (fun b7 => .pointer (some ⟨b7, 0, none⟩)) (some 6) (fun _ => by kernel_rfl) (fun b7 hb7 => ?_)
    refine run_auto [] 10 [] [0, 2] [2, 5, 6, 18, 19, 20] [0, 1, 2, 3, 4, 5] (st' := ⟨[(2, .pointer (some ⟨b1, 0, none⟩)), (5, .pointer (some ⟨b6, 0, none⟩)), (6, .pointer (some ⟨b7, 0, none⟩)), (18, .slice (some ⟨b3, 0, none⟩) p.rs.length p.rs.length), (19, .int .i64 (p.rs.length : Int)), (20, .int .i64 0)], [(b7, .cells (gc (unr p.n 5)).toArray 70 (0, 0)), (b6, .cells #[.int .i64 z, .int .i64 r] 79 (0, 0)), (b4, .cells #[.slice (some ⟨b3, 0, none⟩) p.rs.length p.rs.length] 141 (0, 0)), (b3, .cells (rdRowN p).toArray 147 (0, 0)), (b2, .cells (gc (unr p.n 5)).toArray 70 (0, 0)), (b1, .cells #[.func (.yield l) #[] #[]] 139 (0, 0))]⟩) (acc := [(.pointer (some ⟨b4, 0, none⟩), .pointer (some ⟨b4, 0, none⟩)), (.pointer (some ⟨b7, 0, none⟩), .pointer (some ⟨b7, 0, none⟩))]) (by kernel_rfl) (by kernel_rfl) ⟨rfl, rfl, trivial⟩ ?_
    refine run_auto [] 0 [] [] [2, 5, 6, 18, 19, 20] [0, 1, 2, 3, 4, 5] (st' := ⟨[(2, .pointer (some ⟨b1, 0, none⟩)), (5, .pointer (some ⟨b6, 0, none⟩)), (6, .pointer (some ⟨b7, 0, none⟩)), (18, .slice (some ⟨b3, 0, none⟩) p.rs.length p.rs.length), (19, .int .i64 (p.rs.length : Int)), (20, .int .i64 0)], [(b7, .cells (gc (unr p.n 5)).toArray 70 (0, 0)), (b6, .cells #[.int .i64 z, .int .i64 r] 79 (0, 0)), (b4, .cells #[.slice (some ⟨b3, 0, none⟩) p.rs.length p.rs.length] 141 (0, 0)), (b3, .cells (rdRowN p).toArray 147 (0, 0)), (b2, .cells (gc (unr p.n 5)).toArray 70 (0, 0)), (b1, .cells #[.func (.yield l) #[] #[]] 139 (0, 0))]⟩) (acc := []) (by kernel_rfl) (by kernel_rfl) trivial ?_
    refine run_loop (S := fun (k : Nat) => ⟨[(2, .pointer (some ⟨b1, 0, none⟩)), (5, .pointer (some ⟨b6, 0, none⟩)), (6, .pointer (some ⟨b7, 0, none⟩)), (18, .slice (some ⟨b3, 0, none⟩) p.rs.length p.rs.length), (19, .int .i64 (p.rs.length : Int)), (20, .int .i64 (k : Int))], [(b7, .cells (gc (lf p (z, r) k)).toArray 70 (0, 0)), (b6, .cells #[.int .i64 z, .int .i64 r] 79 (0, 0)), (b4, .cells #[.slice (some ⟨b3, 0, none⟩) p.rs.length p.rs.length] 141 (0, 0)), (b3, .cells (rdRowN p).toArray 147 (0, 0)), (b2, .cells (gc (unr p.n 5)).toArray 70 (0, 0)), (b1, .cells #[.func (.yield l) #[] #[]] 139 (0, 0))]⟩) (fun k => LfI p (z, r) k) (fun k => p.rs.length - k) (0) (by kernel_rfl) (LfI.start hU (z, r)) (by kernel_rfl) (fun k hI0 J0 hJ0 => ?_)
    have hle := hI0.le
    cases hd1 : (decide ((k : Int) < (p.rs.length : Int))) with
    | false =>
      have hp1 := of_decide_eq_false hd1
      refine run_auto [(21, .bool false)] 12 [false] [5, 1, 0] [30, 31, 32] [2, 3, 4, 5] (st' := ⟨[(30, .func (.yield l) #[] #[]), (31, .agg #[.int .i64 z, .int .i64 r]), (32, .agg (gc (lf p (z, r) k)).toArray)], [(b4, .cells #[.slice (some ⟨b3, 0, none⟩) p.rs.length p.rs.length] 141 (0, 0)), (b3, .cells (rdRowN p).toArray 147 (0, 0)), (b2, .cells (gc (unr p.n 5)).toArray 70 (0, 0)), (b1, .cells #[.func (.yield l) #[] #[]] 139 (0, 0))]⟩) (acc := [(.pointer (some ⟨b7, 0, none⟩), .pointer (some ⟨b7, 0, none⟩)), (.pointer (some ⟨b6, 0, none⟩), .pointer (some ⟨b6, 0, none⟩)), (.pointer (some ⟨b1, 0, none⟩), .pointer (some ⟨b1, 0, none⟩)), (.bool false, .bool false), (.bool (decide ((k : Int) < (p.rs.length : Int))), .bool false)]) (by kernel_rfl) (by kernel_rfl) ⟨rfl, rfl, rfl, rfl, (bo hd1), trivial⟩ ?_
      have hyes := LfI.all (c := (z, r)) hU hI0 (show k = p.rs.length by omega)
      have hpre2 := given_pre hyes hpre
      refine run_yield2 l #[.agg #[.int .i64 z, .int .i64 r], .agg (gc (lf p (z, r) k)).toArray] (some 33) (by kernel_rfl) s.D (fun b h => .inr (.inr h)) (fun b _ h => .inr (.inr h)) (fun E' t => ∃ E1, E' = rE E1 l0 ob ms ∧ Yt (J (givenOf p pre ++ [knV ((z, r), lf p (z, r) k)])) Jx E1 t ∧ E1.n0 = s.n0 ∧ ∀ b, E1.D b → s.D b ∨ w0.heap.size ≤ b) (fun w1 hJ1 k1 => Ygives.round2 (Ygives.of (E := s) (hy _ (knV ((z, r), lf p (z, r) k)) s w1 hpre2 hJs hns hJ1.1) hns) hJ1 hll.1 k1.size) (fun E' t hok hn' => ?_)
      obtain ⟨E1, rfl, hok, hn1, hs1⟩ := hok
      cases hd2 : t with
      | false =>
        rw [hd2] at hok
        dsimp only [Yt] at hok
        refine run_auto [(34, .bool true)] 3 [true] [] [] [0, 1, 2, 3] (st' := ⟨[], [(b4, .cells #[.slice (some ⟨b3, 0, none⟩) p.rs.length p.rs.length] 141 (0, 0)), (b3, .cells (rdRowN p).toArray 147 (0, 0)), (b2, .cells (gc (unr p.n 5)).toArray 70 (0, 0)), (b1, .cells #[.func (.yield l) #[] #[]] 139 (0, 0))]⟩) (acc := [(.bool true, .bool true), (.bool true, .bool true)]) (by kernel_rfl) (by kernel_rfl) ⟨rfl, rfl, trivial⟩ ?_
        exact run_retQ rfl (fun a w1 g => hexit .ret E1 _ ⟨rfl, hok, hn1.trans hns⟩ (.inl rfl) hs1 a w1 g)
      | true =>
        rw [hd2] at hok
        dsimp only [Yt] at hok
        refine run_auto [(34, .bool false)] 5 [false] [] [] [0, 1, 2, 3] (st' := ⟨[], [(b4, .cells #[.slice (some ⟨b3, 0, none⟩) p.rs.length p.rs.length] 141 (0, 0)), (b3, .cells (rdRowN p).toArray 147 (0, 0)), (b2, .cells (gc (unr p.n 5)).toArray 70 (0, 0)), (b1, .cells #[.func (.yield l) #[] #[]] 139 (0, 0))]⟩) (acc := [(.bool false, .bool false), (.bool false, .bool false)]) (by kernel_rfl) (by kernel_rfl) ⟨rfl, rfl, trivial⟩ ?_
        exact run_nil rfl (fun a w1 g => hnext E1 _ ⟨by rw [given_some hyes]; exact hok, hn1.trans hns, fun b hb h => (hs1 b h).elim (hsD b hb) (fun h => absurd hb (by have := hll.2; dsimp only at this; omega))⟩ hs1 a w1 g)
    | true =>
      have hp1 := of_decide_eq_true hd1
      have hlt : k < p.rs.length := by omega
      have hrd := hF.rd k hlt
      have hab := elN_a hF hlt
      have hb5 := hF.b5
      obtain ⟨⟨qa, qb, qm, qlo, qhi⟩, hq⟩ : ∃ q, elN p k = q := ⟨_, rfl⟩
      rw [hq] at hab
      have hqm : (elR p.rs k).2.2.1 = qm := congrArg Rdg.at_ hq
      have hql : (elR p.rs k).2.2.2.1 = qlo := congrArg Rdg.lo hq
      have hqh : (elR p.rs k).2.2.2.2 = qhi := congrArg Rdg.hi hq
      rw [hqm, hql, hqh] at hrd
      dsimp only at hab
      refine run_auto [(21, .bool true)] 11 [true] [] [2, 5, 6, 18, 19, 20] [0, 1, 2, 3, 4, 5] (st' := ⟨[(2, .pointer (some ⟨b1, 0, none⟩)), (5, .pointer (some ⟨b6, 0, none⟩)), (6, .pointer (some ⟨b7, 0, none⟩)), (18, .slice (some ⟨b3, 0, none⟩) p.rs.length p.rs.length), (19, .int .i64 (p.rs.length : Int)), (20, .int .i64 (k : Int))], [(b7, .cells (gc (lf p (z, r) k)).toArray 70 (0, 0)), (b6, .cells #[.int .i64 z, .int .i64 r] 79 (0, 0)), (b4, .cells #[.slice (some ⟨b3, 0, none⟩) p.rs.length p.rs.length] 141 (0, 0)), (b3, .cells (rdRowN p).toArray 147 (0, 0)), (b2, .cells (gc (unr p.n 5)).toArray 70 (0, 0)), (b1, .cells #[.func (.yield l) #[] #[]] 139 (0, 0))]⟩) (acc := [(.bool true, .bool true), (.bool (decide ((k : Int) < (p.rs.length : Int))), .bool true)]) (by kernel_rfl) (by kernel_rfl) ⟨rfl, (bo hd1), trivial⟩ ?_
      refine run_v (Instr.indexAt 141 (.slice (some ⟨b3, 0, none⟩) p.rs.length p.rs.length) (.int .i64 (k : Int)) >>= fun v => pure (Next.value v)) (some 22) (.pointer (some ⟨b3, k * 5, none⟩)) (by kernel_rfl) (fun w1 k1 h1 => idx_off (e := 147) (n := 5) (by kernel_rfl) (by kernel_rfl) b3 0 p.rs.length p.rs.length .i64 k (by omega) (k * 5) (by omega) w1) ?_
      refine run_v (Instr.loadAt 147 (.pointer (some ⟨b3, k * 5, none⟩)) >>= fun v => pure (Next.value v)) (some 23) (.agg #[.int .i64 (qa : Int), .int .i64 (qb : Int), .int .i64 qlo, .int .i64 qhi, .int .i64 qm]) (by kernel_rfl) (fun w1 k1 h1 => load_own (e := 147) (fr := (0, 0)) (c := rdRowN p) h1 (List.mem_of_getElem? (i := 3) (by kernel_rfl)) (by have h : loadV Try.prog 147 (rdRowN p) (k * 5) = some (.agg (rdN (elN p k)).toArray) := row_loadS (n := 5) (by kernel_rfl) (by kernel_rfl) (fun _ _ => rfl) hlt; rw [hq] at h; exact h)) ?_
      refine run_new (.cells #[.int .i64 0, .int .i64 0, .int .i64 0, .int .i64 0, .int .i64 0] 147 (0, 0)) (fun b8 => .pointer (some ⟨b8, 0, none⟩)) (some 8) (fun _ => by kernel_rfl) (fun b8 hb8 => ?_)
      refine run_auto [] 7 [] [0, 0, 2] [2, 5, 6, 18, 19, 20, 25, 26] [1, 2, 3, 4, 5, 6] (st' := ⟨[(2, .pointer (some ⟨b1, 0, none⟩)), (5, .pointer (some ⟨b6, 0, none⟩)), (6, .pointer (some ⟨b7, 0, none⟩)), (18, .slice (some ⟨b3, 0, none⟩) p.rs.length p.rs.length), (19, .int .i64 (p.rs.length : Int)), (20, .int .i64 (k : Int)), (25, .iface 147 (.agg #[.int .i64 (qa : Int), .int .i64 (qb : Int), .int .i64 qlo, .int .i64 qhi, .int .i64 qm])), (26, .agg #[.int .i64 z, .int .i64 r])], [(b7, .cells (gc (lf p (z, r) k)).toArray 70 (0, 0)), (b6, .cells #[.int .i64 z, .int .i64 r] 79 (0, 0)), (b4, .cells #[.slice (some ⟨b3, 0, none⟩) p.rs.length p.rs.length] 141 (0, 0)), (b3, .cells (rdRowN p).toArray 147 (0, 0)), (b2, .cells (gc (unr p.n 5)).toArray 70 (0, 0)), (b1, .cells #[.func (.yield l) #[] #[]] 139 (0, 0))]⟩) (acc := [(.pointer (some ⟨b6, 0, none⟩), .pointer (some ⟨b6, 0, none⟩)), (.pointer (some ⟨b8, 0, none⟩), .pointer (some ⟨b8, 0, none⟩)), (.pointer (some ⟨b8, 0, none⟩), .pointer (some ⟨b8, 0, none⟩))]) (by kernel_rfl) (by kernel_rfl) ⟨rfl, rfl, rfl, trivial⟩ ?_
      cases hd2 : (((lf p (z, r) k).put qa qb (qlo - shw (z, r) qm) (qhi - shw (z, r) qm)).isSome) with
      | false =>
        refine run_wr 101 #[.pointer (some ⟨b7, 0, none⟩), .iface 147 (.agg #[.int .i64 (qa : Int), .int .i64 (qb : Int), .int .i64 qlo, .int .i64 qhi, .int .i64 qm]), .agg #[.int .i64 z, .int .i64 r]] (some 27) (.bool false) 0 b7 (.cells (gc (lf p (z, r) k)).toArray 70 (0, 0)) (.cells (gc ((lf p (z, r) k).putr qa qb (qlo - shw (z, r) qm) (qhi - shw (z, r) qm))).toArray 70 (0, 0)) (by kernel_rfl) (by kernel_rfl) (by kernel_rfl) (fun w1 k1 h1 => (by have h := narrow_r b7 (lf p (z, r) k) qa qb qlo qhi qm z r w1 (by omega) (by omega) (hI0.done) (hI0.small) (by omega) (by omega) (by omega) (by omega) (by omega) (by omega) (by omega) (by omega) (by omega) (by omega) (h1 (b7, .cells (gc (lf p (z, r) k)).toArray 70 (0, 0)) (List.mem_of_getElem? (i := 0) (by kernel_rfl))); rw [hd2] at h; exact h)) ?_
        refine run_auto [(28, .bool true)] 4 [true] [] [] [2, 3, 4, 5] (st' := ⟨[], [(b4, .cells #[.slice (some ⟨b3, 0, none⟩) p.rs.length p.rs.length] 141 (0, 0)), (b3, .cells (rdRowN p).toArray 147 (0, 0)), (b2, .cells (gc (unr p.n 5)).toArray 70 (0, 0)), (b1, .cells #[.func (.yield l) #[] #[]] 139 (0, 0))]⟩) (acc := [(.bool true, .bool true), (.bool true, .bool true)]) (by kernel_rfl) (by kernel_rfl) ⟨rfl, rfl, trivial⟩ ?_
        have hno := LfI.none (c := (z, r)) hU hI0 hlt (by rw [hq]; exact hd2)
        exact run_nil rfl (fun a w1 g => hnext s _ ⟨by rw [given_none hno]; exact hJs, hns, hsD⟩ (fun b h => .inl h) a w1 g)
      | true =>
        refine run_wr 101 #[.pointer (some ⟨b7, 0, none⟩), .iface 147 (.agg #[.int .i64 (qa : Int), .int .i64 (qb : Int), .int .i64 qlo, .int .i64 qhi, .int .i64 qm]), .agg #[.int .i64 z, .int .i64 r]] (some 27) (.bool true) 0 b7 (.cells (gc (lf p (z, r) k)).toArray 70 (0, 0)) (.cells (gc ((lf p (z, r) k).putr qa qb (qlo - shw (z, r) qm) (qhi - shw (z, r) qm))).toArray 70 (0, 0)) (by kernel_rfl) (by kernel_rfl) (by kernel_rfl) (fun w1 k1 h1 => (by have h := narrow_r b7 (lf p (z, r) k) qa qb qlo qhi qm z r w1 (by omega) (by omega) (hI0.done) (hI0.small) (by omega) (by omega) (by omega) (by omega) (by omega) (by omega) (by omega) (by omega) (by omega) (by omega) (h1 (b7, .cells (gc (lf p (z, r) k)).toArray 70 (0, 0)) (List.mem_of_getElem? (i := 0) (by kernel_rfl))); rw [hd2] at h; exact h)) ?_
        refine run_auto [(28, .bool false), (29, .int .i64 ((k + 1 : Nat) : Int))] 9 [false] [] [2, 5, 6, 18, 19, 20] [0, 1, 2, 3, 4, 5] (st' := ⟨[(2, .pointer (some ⟨b1, 0, none⟩)), (5, .pointer (some ⟨b6, 0, none⟩)), (6, .pointer (some ⟨b7, 0, none⟩)), (18, .slice (some ⟨b3, 0, none⟩) p.rs.length p.rs.length), (19, .int .i64 (p.rs.length : Int)), (20, .int .i64 ((k + 1 : Nat) : Int))], [(b7, .cells (gc ((lf p (z, r) k).putr qa qb (qlo - shw (z, r) qm) (qhi - shw (z, r) qm))).toArray 70 (0, 0)), (b6, .cells #[.int .i64 z, .int .i64 r] 79 (0, 0)), (b4, .cells #[.slice (some ⟨b3, 0, none⟩) p.rs.length p.rs.length] 141 (0, 0)), (b3, .cells (rdRowN p).toArray 147 (0, 0)), (b2, .cells (gc (unr p.n 5)).toArray 70 (0, 0)), (b1, .cells #[.func (.yield l) #[] #[]] 139 (0, 0))]⟩) (acc := [(.int .i64 (IntKind.i64.wrap ((k : Int) + 1)), .int .i64 ((k + 1 : Nat) : Int)), (.bool false, .bool false), (.bool false, .bool false)]) (by kernel_rfl) (by kernel_rfl) ⟨(wr (by omega) (by omega)), rfl, rfl, trivial⟩ ?_
        rw [show gc ((lf p (z, r) k).putr qa qb (qlo - shw (z, r) qm) (qhi - shw (z, r) qm)) = gc (lf p (z, r) (k + 1)) from by show _ = gc ((lf p (z, r) k).putr (elN p k).a (elN p k).b ((elN p k).lo - shw (z, r) (elN p k).at_) ((elN p k).hi - shw (z, r) (elN p k).at_)); rw [hq]]
        exact run_round (by kernel_rfl) (hJ0 (k + 1) (hI0.next hF hlt (by rw [hq]; exact hd2)) (by omega))
  · skip
    obtain rfl : ys = p.compL := hys
    obtain ⟨hJs, hns, hsD⟩ := hI
    refine run_auto [] 1 [] [] [] [] (st' := ⟨[], []⟩) (acc := []) (by kernel_rfl) (by kernel_rfl) trivial ?_
    refine run_endE (fn := f97) rfl (Nat.le_refl _) (by kernel_rfl) [] [] (e := []) (by kernel_rfl) trivial (fun w1 k1 h1 hE1 => ?_)
    exact ⟨rfl, s, hns, hE1, .inl ⟨_, rfl, by rw [← given_all]; exact hJs⟩⟩
  · skip
    obtain ⟨rfl, hJx, hny⟩ := hI
    refine run_endE (fn := f97) rfl (Nat.le_refl _) (by kernel_rfl) [] [] (e := []) (by kernel_rfl) trivial (fun w1 k1 h1 hE1 => ?_)
    exact ⟨rfl, y, hny, hE1, .inr hJx⟩
end Go.Proofs.Ythnhcacoegmdfaa

namespace Go.Proofs.Ythnhcacoegmdfaa
open Go.RowKit Go.Proofs.Try


theorem Pr.InD.kept {p : Pr} {D M : Nat → Prop} {w w' : World} (h : p.InD D w) (k : Kept M w w') (hM : ∀ b, ¬ M b) : p.InD D w' := by
  refine ⟨fun hx => ?_, fun hx => ?_⟩
  · obtain ⟨b, o, e, hd, hc⟩ := h.bl hx
    exact ⟨b, o, e, hd, fun i hi => ⟨k.cell (hc i hi).1 (hM b), k.cell (hc i hi).2 (hM b)⟩⟩
  · obtain ⟨b, o, e, hd, hc⟩ := h.rd hx
    exact ⟨b, o, e, hd, fun i hi => ⟨k.cell (hc i hi).1 (hM b), k.cell (hc i hi).2.1 (hM b), k.cell (hc i hi).2.2.1 (hM b), k.cell (hc i hi).2.2.2.1 (hM b), k.cell (hc i hi).2.2.2.2 (hM b)⟩⟩
theorem kn_in {p : Pr} {x : List Value} (h : x ∈ p.knL) : ∃ c g, x = knV (c, g) ∧ p.n.left c = some g ∧ (p.zlo ≤ c.1 ∧ c.1 ≤ p.zhi) ∧ p.rlo ≤ c.2 ∧ c.2 ≤ p.rhi := by
  obtain ⟨k, hk, rfl⟩ := List.mem_map.1 h
  have := Prn.mem_known.1 hk
  exact ⟨k.1, k.2, rfl, this.2, Prn.mem_comps.1 this.1⟩
theorem agree_kn (p : Pr) : p.n.agreeB = !p.knL.isEmpty := by
  unfold Prn.agreeB Pr.knL
  cases p.n.known <;> rfl
set_option maxRecDepth 100000 in
theorem agree_any (p : Pr) (w : World) (hp : p.In w) (hF : p.Fine) : Calls Try.prog 87 #[.agg #[.slice p.ba p.bs.length p.bc, .int .i64 p.zlo, .int .i64 p.zhi, .int .i64 p.rlo, .int .i64 p.rhi, .slice p.ra p.rs.length p.rc]] w (RetB p.n.agreeB w) := by
  refine calls_run (fn := f87) (c := (f87.body).getD .skip) [.agg #[.slice p.ba p.bs.length p.bc, .int .i64 p.zlo, .int .i64 p.zhi, .int .i64 p.rlo, .int .i64 p.rhi, .slice p.ra p.rs.length p.rc]] func87 (by kernel_rfl) (fun _ => False) [] (fun _ h => by cases h) (List.Pairwise.nil) 7 (by kernel_rfl) (by simp) ?_
  refine run_auto [] 2 [] [] [0] [] (st' := ⟨[(0, .agg #[.slice p.ba p.bs.length p.bc, iV p.zlo, iV p.zhi, iV p.rlo, iV p.rhi, .slice p.ra p.rs.length p.rc])], []⟩) (acc := []) (by kernel_rfl) (by kernel_rfl) trivial ?_
  refine run_new (aO #[.slice p.ba p.bs.length p.bc, iV p.zlo, iV p.zhi, iV p.rlo, iV p.rhi, .slice p.ra p.rs.length p.rc] 30) (fun b1 => pA b1) (some 1) (fun _ => by kernel_rfl) (fun b1 hb1 => ?_)
  refine run_new (aO #[.bool false] 4) (fun b2 => pA b2) (some 2) (fun _ => by kernel_rfl) (fun b2 hb2 => ?_)
  refine run_auto [] 5 [] [1] [2, 3] [0] (st' := ⟨[(2, pA b2), (3, .agg #[.slice p.ba p.bs.length p.bc, iV p.zlo, iV p.zhi, iV p.rlo, iV p.rhi, .slice p.ra p.rs.length p.rc])], [(b2, aO #[.bool false] 4)]⟩) (acc := [(pA b1, pA b1)]) (by kernel_rfl) (by kernel_rfl) ⟨rfl, trivial⟩ ?_
  refine run_nw 77 #[.agg #[.slice p.ba p.bs.length p.bc, iV p.zlo, iV p.zhi, iV p.rlo, iV p.rhi, .slice p.ra p.rs.length p.rc]] (some 4) (α := Unit) (fun _u b3 => .func (.func 97) #[] #[pA b3]) (fun _u => aO #[.slice p.ba p.bs.length p.bc, iV p.zlo, iV p.zhi, iV p.rlo, iV p.rhi, .slice p.ra p.rs.length p.rc] 30) (fun _u => True) (by kernel_rfl) (fun _ => rfl) (fun w1 k1 h1 => possible_any p w1) (fun _u b3 hIb3 hb3 => ?_)
  refine run_auto [] 2 [] [] [2, 4] [0, 1] (st' := ⟨[(2, pA b2), (4, .func (.func 97) #[] #[pA b3])], [(b3, aO #[.slice p.ba p.bs.length p.bc, iV p.zlo, iV p.zhi, iV p.rlo, iV p.rhi, .slice p.ra p.rs.length p.rc] 30), (b2, aO #[.bool false] 4)]⟩) (acc := []) (by kernel_rfl) (by kernel_rfl) trivial ?_
  refine run_auto [] 0 [] [] [2, 4] [0, 1] (st' := ⟨[(2, pA b2), (4, .func (.func 97) #[] #[pA b3])], [(b3, aO #[.slice p.ba p.bs.length p.bc, iV p.zlo, iV p.zhi, iV p.rlo, iV p.rhi, .slice p.ra p.rs.length p.rc] 30), (b2, aO #[.bool false] 4)]⟩) (acc := []) (by kernel_rfl) (by kernel_rfl) trivial ?_
  refine run_range (σ := Unit) (τ := Unit) 97 #[pA b3] [5, 6] [(b3, aO #[.slice p.ba p.bs.length p.bc, iV p.zlo, iV p.zhi, iV p.rlo, iV p.rhi, .slice p.ra p.rs.length p.rc] 30)] [(b2, aO #[.bool false] 4)] p.InD (fun l => l <+: p.knL) (fun l => l = p.knL) (by kernel_rfl) rfl rfl (fun l => by kernel_rfl) rfl (by kernel_rfl) (fun pre x hx => by obtain ⟨c, g, rfl, _⟩ := kn_in (x := x) (List.IsPrefix.subset hx (by simp)); rfl) (possible_give p hF b3) (fun D w1 k1 hD => (Pr.In.inD hp (fun b hb h => hD b hb h)).kept k1 (fun _ h => h))
    (fun s => [(b2, aO #[.bool false] 4)]) (fun s => Ext.none) (fun pre s => pre = []) (fun y => [(b2, aO #[.bool true] 4)]) (fun y => Ext.none) (fun c y => c = .ret ∧ p.knL.isEmpty = false) (()) (rfl) rfl rfl (fun _ _ _ => ⟨rfl, fun _ _ h => h.elim⟩) (fun _ _ _ => rfl)
    (fun pre x s hpre hI l0 ms ro ob w0 Jb Jn Je hkk hll hbeg hnext hexit => ?_) (fun ys s hys hI => ?_) (fun c y hI => ?_)
  · skip
    have hpre : pre ++ [x] <+: p.knL := hpre
    obtain ⟨c, g, rfl, _⟩ := kn_in (x := x) (hpre.mem (by simp))
    have hne : p.knL.isEmpty = false := by
      cases hk : p.knL with
      | nil => rw [hk] at hpre; simp at hpre
      | cons _ _ => rfl
    refine run_auto [] 1 [] [] [2] [0] (st' := ⟨[(2, pA b2)], [(b2, aO #[.bool false] 4)]⟩) (acc := []) (by kernel_rfl) (by kernel_rfl) trivial ?_
    refine run_round rfl (hbeg _ ?_)
    refine run_auto [] 5 [] [0] [] [0] (st' := ⟨[], [(b2, aO #[.bool true] 4)]⟩) (acc := [(pA b2, pA b2)]) (by kernel_rfl) (by kernel_rfl) ⟨rfl, trivial⟩ ?_
    exact run_retQ rfl (fun a w1 g => hexit .ret () _ ⟨rfl, hne⟩ (.inl rfl) (fun b h => h.elim) a w1 g)
  · skip
    obtain rfl : ys = p.knL := hys
    refine run_auto [] 5 [] [0] [2] [0] (st' := ⟨[(2, pA b2)], [(b2, aO #[.bool false] 4)]⟩) (acc := [(pA b2, pA b2)]) (by kernel_rfl) (by kernel_rfl) ⟨rfl, trivial⟩ ?_
    refine run_end (fn := f87) rfl (Nat.le_refl _) (by kernel_rfl) [0] [.bool false] (e := [(pA b2, pA b2)]) (by kernel_rfl) ⟨rfl, trivial⟩ (fun w1 k1 h1 => ?_)
    exact ⟨by rw [agree_kn, hI]; rfl, k1.keeps (fun _ h => h)⟩
  · skip
    obtain ⟨rfl, hne⟩ := hI
    refine run_end (fn := f87) rfl (Nat.le_refl _) (by kernel_rfl) [0] [.bool true] (e := [(pA b2, pA b2)]) (by kernel_rfl) ⟨rfl, trivial⟩ (fun w1 k1 h1 => ?_)
    exact ⟨by rw [agree_kn, hne]; rfl, k1.keeps (fun _ h => h)⟩

end Go.Proofs.Ythnhcacoegmdfaa
