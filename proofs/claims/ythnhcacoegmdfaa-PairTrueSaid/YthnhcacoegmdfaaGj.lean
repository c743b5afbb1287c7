/-
  A PAIR THAT CAME IN, OPENED.
  LAW: is a pair valid; what a comparator shows.
-/
import Derived.Test.YthnhcacoegmdfaaHZk
import Derived.Test.YthnhcacoegmdfaaGb
import Derived.Test.YthnhcacoegmdfaaGd
import Derived.Deep.Slices
import Derived.Deep.Fields
import Derived.Test.YthnhcacoegmdfaaGi
namespace Go.Proofs.Ythnhcacoegmdfaa
open Go.RowKit Go.Proofs.Try


theorem ten_loop {x q : Int} (h1 : q = x / 10 ∨ q = x / 10 + 1) (h2 : ¬ x < q * 10) : q = x / 10 := by omega
set_option maxRecDepth 100000 in
theorem lshows_any (z r m : Int) (z1 : -10 ≤ z) (z2 : z ≤ 10) (r1 : -5 ≤ r) (r2 : r ≤ 5) (m1 : 0 ≤ m) (m2 : m ≤ 60) (w : World)  : Calls Try.prog 25 #[.int .i64 z, .int .i64 r, .int .i64 m] w (RetI (shw (z, r) m) w) := by
  obtain ⟨hb1, hb2, hb3, hb4⟩ := shw_in (c := (z, r)) z1 z2 r1 r2 m1 m2
  dsimp only [shw] at hb1 hb2 hb3 hb4
  have d0 : -1000000 ≤ (r * m).tdiv 10 ∧ (r * m).tdiv 10 ≤ 1000000 := by have h3 := tdiv10 (r * m); split at h3 <;> omega
  refine calls_run (fn := f25) (c := (f25.body).getD .skip) [.int .i64 z, .int .i64 r, .int .i64 m] func25 (by kernel_rfl) (fun _ => False) [] (fun _ h => by cases h) (List.Pairwise.nil) 23 (by kernel_rfl) (by simp) ?_
  refine run_auto [(11, iV (r * m)), (13, iV (Int.tdiv (r * m) 10))] 19 [] [] [0, 6, 7, 8] [] (st' := ⟨[(0, iV z), (6, iV 0), (7, iV (r * m)), (8, iV (Int.tdiv (r * m) 10))], []⟩) (acc := [(iV (IntKind.i64.wrap (Int.tdiv (r * m) 10)), iV (Int.tdiv (r * m) 10)), (iV (IntKind.i64.wrap (r * m)), iV (r * m))]) (by kernel_rfl) (by kernel_rfl) ⟨(tdv (by omega) (by omega)), (wr (by omega) (by omega)), trivial⟩ ?_
  refine run_auto [] 0 [] [] [0, 6, 7, 8] [] (st' := ⟨[(0, iV z), (6, iV 0), (7, iV (r * m)), (8, iV (Int.tdiv (r * m) 10))], []⟩) (acc := []) (by kernel_rfl) (by kernel_rfl) trivial ?_
  refine run_loop (S := fun (q : Int) => ⟨[(0, iV z), (6, iV 0), (7, iV (r * m)), (8, iV q)], []⟩) (fun q => q = r * m / 10 ∨ q = r * m / 10 + 1) (fun q => (q - r * m / 10).toNat) (Int.tdiv (r * m) 10) (by kernel_rfl) ((by have h3 := tdiv10 (r * m); split at h3 <;> omega)) (by kernel_rfl) (fun q hI0 J0 hJ0 => ?_)
  cases hd1 : (decide ((r * m) < (q * 10))) with
  | false =>
    have hp1 := of_decide_eq_false hd1
    refine run_auto [(15, iV (q * 10)), (17, .bool false), (22, iV (z + q))] 17 [false] [] [6] [] (st' := ⟨[(6, iV (z + q))], []⟩) (acc := [(iV (IntKind.i64.wrap (z + q)), iV (z + q)), (.bool false, .bool false), (.bool (decide ((r * m) < (q * 10))), .bool false), (iV (IntKind.i64.wrap (q * 10)), iV (q * 10))]) (by kernel_rfl) (by kernel_rfl) ⟨(wr (by omega) (by omega)), rfl, (bo hd1), (wr (by omega) (by omega)), trivial⟩ ?_
    refine run_end (fn := f25) rfl (Nat.le_refl _) (by kernel_rfl) [] [iV (z + q)] (e := []) (by kernel_rfl) trivial (fun w1 k1 h1 => ?_)
    exact ⟨by rw [ten_loop hI0 (by omega)]; rfl, k1.keeps (fun _ h => h)⟩
  | true =>
    have hp1 := of_decide_eq_true hd1
    refine run_auto [(15, iV (q * 10)), (17, .bool true), (19, iV (q - 1))] 17 [true] [] [0, 6, 7, 8] [] (st' := ⟨[(0, iV z), (6, iV 0), (7, iV (r * m)), (8, iV (q - 1))], []⟩) (acc := [(iV (IntKind.i64.wrap (q - 1)), iV (q - 1)), (.bool true, .bool true), (.bool (decide ((r * m) < (q * 10))), .bool true), (iV (IntKind.i64.wrap (q * 10)), iV (q * 10))]) (by kernel_rfl) (by kernel_rfl) ⟨(wr (by omega) (by omega)), rfl, (bo hd1), (wr (by omega) (by omega)), trivial⟩ ?_
    exact run_round (by kernel_rfl) (hJ0 (q - 1) (by omega) (by omega))

end Go.Proofs.Ythnhcacoegmdfaa
