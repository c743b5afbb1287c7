/-
  LAW: PairClash: do the readings of a set clash; how many are in a set.
-/
import Derived.Test.YthnhcacoegmdfaaHF7
namespace Go.Proofs.Ythnhcacoegmdfaa
open Go.RowKit Go.Proofs.Try


def clashB (p : Pr) (s : Nat) : Bool := (p.n.keep (inB s)).known.isEmpty
def less (s i : Nat) : Nat := s ^^^ (s &&& 1 <<< i)
section
variable {p : Pr} (h : p.Fine)
include h
omit h in
theorem clash_n (p : Pr) (s : Nat) : clashB p s = !(p.n.keep (inB s)).agreeB := by unfold clashB Prn.agreeB; simp
omit h in
theorem comp_n (s : Nat) : p.n.keep (inB (compl p.rs.length s)) = p.n.keep (outB s) := Prn.keep_congr fun i hi => by
  have hi : i < p.rs.length := by rwa [nrs_len] at hi
  unfold inB outB compl
  rw [Nat.testBit_xor, Nat.testBit_and, all_bits hi]
  simp
theorem wrong_all : p.n.wrongL < 2 ^ p.rs.length ∧ clashB p (compl p.rs.length p.n.wrongL) = false ∧ ∀ s, s < 2 ^ p.rs.length → clashB p (compl p.rs.length s) = false → s = p.n.wrongL ∨ Before p.n.wrongL s := by
  have h8 := h.r8
  obtain ⟨q1, q2, q3⟩ := Prn.wrong_is h.ok (by rw [nrs_len]; exact h8) (h.z).2.1 (h.r).2.1
  rw [nrs_len] at q1 q3
  refine ⟨q1, ?_, fun s hs hc => q3 s hs ?_⟩
  · rw [clash_n p, comp_n]
    show (!(p.n.keep fun i => !p.n.wrongL.testBit i).agreeB) = false
    rw [q2]
    rfl
  · rw [clash_n p, comp_n] at hc
    have hc : (p.n.keep (outB s)).agreeB = true := by simpa using hc
    exact hc
omit h in
theorem every_n (p : Pr) : clashB p (2 ^ p.rs.length - 1) = !p.n.agreeB := by
  rw [clash_n p, p.n.keep_all (fun i hi => by rw [nrs_len] at hi; exact all_bits hi)]
theorem wrong_zero : p.n.agreeB = decide (bitsN p.n.wrongL = 0) := by
  have h8 := h.r8
  have hp2 := pow_le5 h8
  obtain ⟨q1, q2, q3⟩ := wrong_all h
  have hz : ∀ s : Nat, s < 256 → bitsN s = 0 → s = 0 := by decide +kernel
  have h0 : bitsN 0 = 0 := by decide +kernel
  have e0 : clashB p (compl p.rs.length 0) = !p.n.agreeB := by
    rw [← every_n p]
    congr 1
    unfold compl
    simp
  cases ha : p.n.agreeB with
  | true =>
    rw [ha] at e0
    have := q3 0 (Nat.two_pow_pos _) e0
    have hb : p.n.wrongL = 0 := by
      rcases this with this | this
      · exact this.symm
      · unfold Before at this
        omega
    rw [hb]
    exact (decide_eq_true h0).symm
  | false =>
    refine (decide_eq_false fun hb => ?_).symm
    rw [hz _ (by omega) hb, e0, ha] at q2
    cases q2
end
end Go.Proofs.Ythnhcacoegmdfaa
