/-
  LAW: exact: a settle in which all of a block, and all touches, are known.
  LAW: SettleEnds: numbers.
-/
import Derived.Test.YtfjfkaaflghaiaaGg
import Derived.Test.YtfjfkaaflghaiaaHYB
import Derived.Test.YtfjfkaaflghaiaaGb
import Derived.Test.YtfjfkaaflghaiaaGk
namespace Go.Proofs.Ytfjfkaaflghaiaa
open Go.RowKit Go.Proofs.Try
attribute [local irreducible] Run wpK


def endV (hi : Bool) (s : Sp) : Int := bif hi then s.2 else s.1
/-- A block of which all is known; a touch. -/
def exB (hi : Bool) (k : Int) (b : Bk) : Bk := (endV hi (b.1, b.2.1), endV hi (b.1, b.2.1), k, k, b.2.2.2.2)
def exTc (hi : Bool) (t : Tc) : Tc := (t.1, t.2.1, endV hi t.2.2, endV hi t.2.2)
end Go.Proofs.Ytfjfkaaflghaiaa

namespace Go.Proofs.Ytfjfkaaflghaiaa
open Go.RowKit Go.Proofs.Try
attribute [local irreducible] Run wpK


def Sn.ex (s : Sn) (b : Nat) (hi : Bool) (k : Int) : Sn := { s with bs := s.bs.set b (exB hi k (elB s.bs b)), ts := s.ts.map (exTc hi) }
def Sb.ex (p : Sb) (b : Nat) (hi : Bool) (k : Int) (g cap : Nat) (ta : Option Addr) (tc : Nat) : Sb := ⟨some ⟨g, 0, none⟩, cap, p.bs.set b (exB hi k (elB p.bs b)), p.near, p.last, ta, tc, p.ts.map (exTc hi)⟩
theorem lon_is {s : Sn} {b m : Nat} (hok : s.ok = true) (hb : b < s.bs.length) (hm : (m : Int) ≤ s.last) : lonR s b m = .inr (lonS (s.out b m) (elB s.bs b).2.2.2.2) := by
  unfold lonR Sn.isB Sn.isM inI
  rw [hok, decide_eq_true (show (0 : Int) ≤ (b : Int) ∧ (b : Int) ≤ (s.bs.length : Int) - 1 by omega), decide_eq_true (show (0 : Int) ≤ (m : Int) ∧ (m : Int) ≤ s.last by omega)]
  rfl
theorem tdv_bd (n : Int) : n / 10 ≤ Int.tdiv n 10 ∧ Int.tdiv n 10 ≤ n / 10 + 1 := by
  rcases Int.lt_or_le n 0 with h | h
  · have e : Int.tdiv n 10 = -((-n) / 10) := by
      have := Int.neg_tdiv (-n) 10
      rw [Int.neg_neg] at this
      rw [this, Int.tdiv_eq_ediv_of_nonneg (by omega)]
    rw [e]
    omega
  · rw [Int.tdiv_eq_ediv_of_nonneg h]
    omega
set_option maxRecDepth 100000 in
theorem ldown_any (n : Int) (n1 : -1000000000 ≤ n) (n2 : n ≤ 1000000000) (w : World)  : Calls Try.prog 26 #[.int .i64 n] w (RetI (dwn n) w) := by
  have htd := tdv_bd n
  refine calls_run (fn := f26) (c := (f26.body).getD .skip) [.int .i64 n] func26 (by kernel_rfl) (fun _ => False) [] (fun _ h => by cases h) (List.Pairwise.nil) 13 (by kernel_rfl) (by simp) ?_
  refine run_auto [(5, iV (Int.tdiv n 10))] 12 [] [] [0, 2, 3] [] (st' := ⟨[(0, iV n), (2, iV 0), (3, iV (Int.tdiv n 10))], []⟩) (acc := [(iV (IntKind.i64.wrap (Int.tdiv n 10)), iV (Int.tdiv n 10))]) (by kernel_rfl) (by kernel_rfl) ⟨(tdv (by omega) (by omega)), trivial⟩ ?_
  refine run_auto [] 0 [] [] [0, 2, 3] [] (st' := ⟨[(0, iV n), (2, iV 0), (3, iV (Int.tdiv n 10))], []⟩) (acc := []) (by kernel_rfl) (by kernel_rfl) trivial ?_
  refine run_loop (S := fun (q : Int) => ⟨[(0, iV n), (2, iV 0), (3, iV q)], []⟩) (fun q => n / 10 ≤ q ∧ q ≤ n / 10 + 1) (fun q => (q - n / 10).toNat) (Int.tdiv n 10) (by kernel_rfl) (tdv_bd n) (by kernel_rfl) (fun q hI0 J0 hJ0 => ?_)
  obtain ⟨hq1, hq2⟩ := hI0
  cases hd1 : (decide (n < (q * 10))) with
  | false =>
    have hp1 := of_decide_eq_false hd1
    refine run_auto [(7, iV (q * 10)), (9, .bool false)] 15 [false] [] [2] [] (st' := ⟨[(2, iV q)], []⟩) (acc := [(.bool false, .bool false), (.bool (decide (n < (q * 10))), .bool false), (iV (IntKind.i64.wrap (q * 10)), iV (q * 10))]) (by kernel_rfl) (by kernel_rfl) ⟨rfl, (bo hd1), (wr (by omega) (by omega)), trivial⟩ ?_
    refine run_end (fn := f26) rfl (Nat.le_refl _) (by kernel_rfl) [] [iV q] (e := []) (by kernel_rfl) trivial (fun w1 k1 h1 => ?_)
    exact ⟨by rw [show dwn n = q from by unfold dwn; omega]; rfl, k1.keeps (fun _ h => h)⟩
  | true =>
    have hp1 := of_decide_eq_true hd1
    refine run_auto [(7, iV (q * 10)), (9, .bool true), (11, iV (q - 1))] 17 [true] [] [0, 2, 3] [] (st' := ⟨[(0, iV n), (2, iV 0), (3, iV (q - 1))], []⟩) (acc := [(iV (IntKind.i64.wrap (q - 1)), iV (q - 1)), (.bool true, .bool true), (.bool (decide (n < (q * 10))), .bool true), (iV (IntKind.i64.wrap (q * 10)), iV (q * 10))]) (by kernel_rfl) (by kernel_rfl) ⟨(wr (by omega) (by omega)), rfl, (bo hd1), (wr (by omega) (by omega)), trivial⟩ ?_
    exact run_round (by kernel_rfl) (hJ0 (q - 1) (⟨by omega, by omega⟩) (by omega))

end Go.Proofs.Ytfjfkaaflghaiaa
