/-
  LAW: inside; a pair in which a deviation is known; a pair with readings more.
-/
import Derived.Test.YthnhcacoegmdfaaHF2
import Derived.Test.YthnhcacoegmdfaaGb
namespace Go.Proofs.Ythnhcacoegmdfaa
open Go.RowKit Go.Proofs.Try


def insB (n lo hi : Int) : Bool := decide (lo ≤ n ∧ n ≤ hi)
theorem Bls.flat {w : World} {a : Option Addr} {bs : List (Int × Int)} (h : Bls w a bs) : bs ≠ [] → ∃ b o, a = some ⟨b, o, none⟩ ∧ ∀ j u, (bs.flatMap spR)[j]? = some u → w.cell? ((⟨b, o, none⟩ : Addr).add j) = some u := by
  intro hx
  obtain ⟨b, o, e, hc⟩ := h hx
  refine ⟨b, o, e, flat_cells spR_len fun i x hi k u hk => ?_⟩
  have hl := (List.getElem?_eq_some_iff.1 hi).1
  have h5 := hc i hl
  have e2 : elB bs i = x := by unfold elB; rw [hi]; rfl
  rw [e2] at h5
  exact c2 h5.1 h5.2 k u hk
set_option maxRecDepth 100000 in
theorem inside_any (n lo hi : Int) (w : World)  : Calls Try.prog 24 #[.int .i64 n, .agg #[.int .i64 lo, .int .i64 hi]] w (RetB (insB n lo hi) w) := by
  refine calls_run (fn := f24) (c := (f24.body).getD .skip) [.int .i64 n, .agg #[.int .i64 lo, .int .i64 hi]] func24 (by kernel_rfl) (fun _ => False) [] (fun _ h => by cases h) (List.Pairwise.nil) 15 (by kernel_rfl) (by simp) ?_
  refine run_auto [] 2 [] [] [0, 1] [] (st' := ⟨[(0, iV n), (1, .agg #[iV lo, iV hi])], []⟩) (acc := []) (by kernel_rfl) (by kernel_rfl) trivial ?_
  refine run_new (aO #[iV lo, iV hi] 23) (fun b1 => pA b1) (some 3) (fun _ => by kernel_rfl) (fun b1 hb1 => ?_)
  cases hd1 : (decide (lo ≤ n)) with
  | false =>
    have hp1 := of_decide_eq_false hd1
    refine run_auto [(8, .bool false)] 16 [] [0] [4] [] (st' := ⟨[(4, .bool false)], []⟩) (acc := [(.bool (decide (lo ≤ n)), .bool false), (pA b1, pA b1)]) (by kernel_rfl) (by kernel_rfl) ⟨(bo hd1), rfl, trivial⟩ ?_
    refine run_end (fn := f24) rfl (Nat.le_refl _) (by kernel_rfl) [] [.bool false] (e := []) (by kernel_rfl) trivial (fun w1 k1 h1 => ?_)
    exact ⟨by simp only [resVal]; congr 2; simp only [insB]; simp; omega, k1.keeps (fun _ h => h)⟩
  | true =>
    have hp1 := of_decide_eq_true hd1
    cases hd2 : (decide (n ≤ hi)) with
    | false =>
      have hp2 := of_decide_eq_false hd2
      refine run_auto [(8, .bool true), (13, .bool false)] 16 [] [0, 0] [4] [] (st' := ⟨[(4, .bool false)], []⟩) (acc := [(.bool (decide (n ≤ hi)), .bool false), (pA b1, pA b1), (.bool (decide (lo ≤ n)), .bool true), (pA b1, pA b1)]) (by kernel_rfl) (by kernel_rfl) ⟨(bo hd2), rfl, (bo hd1), rfl, trivial⟩ ?_
      refine run_end (fn := f24) rfl (Nat.le_refl _) (by kernel_rfl) [] [.bool false] (e := []) (by kernel_rfl) trivial (fun w1 k1 h1 => ?_)
      exact ⟨by simp only [resVal]; congr 2; simp only [insB]; simp; omega, k1.keeps (fun _ h => h)⟩
    | true =>
      have hp2 := of_decide_eq_true hd2
      refine run_auto [(8, .bool true), (13, .bool true)] 16 [] [0, 0] [4] [] (st' := ⟨[(4, .bool true)], []⟩) (acc := [(.bool (decide (n ≤ hi)), .bool true), (pA b1, pA b1), (.bool (decide (lo ≤ n)), .bool true), (pA b1, pA b1)]) (by kernel_rfl) (by kernel_rfl) ⟨(bo hd2), rfl, (bo hd1), rfl, trivial⟩ ?_
      refine run_end (fn := f24) rfl (Nat.le_refl _) (by kernel_rfl) [] [.bool true] (e := []) (by kernel_rfl) trivial (fun w1 k1 h1 => ?_)
      exact ⟨by simp only [resVal]; congr 2; simp only [insB]; simp; omega, k1.keeps (fun _ h => h)⟩

end Go.Proofs.Ythnhcacoegmdfaa
