/-
  LAW: a block with a reading more: numbers.
  LAW: with: a block with an event more.
  LAW: WearFits, walked.
  LAW: with, by numbers; WearEnds: numbers.
-/
import Derived.Test.YtdehgplklgfcdaaGreatGi
import Derived.Test.YtdehgplklgfcdaaGreatGb
namespace Go.Proofs.YtdehgplklgfcdaaGreat
open Go.RowKit Go.Proofs.Tryz


def Wn.add (w : Wn) (x : Ev) : Wn := ⟨w.l, w.u, w.es ++ [x]⟩
/-- A block with an event more, whose events lie elsewhere. -/
def Wb.add (p : Wb) (x : Ev) (a : Option Addr) (c : Nat) : Wb := ⟨p.ll, p.lh, p.ul, p.uh, a, c, p.es ++ [x]⟩
/-- A block whose first length is known. -/
def Wn.one (w : Wn) (m : Int) : Wn := ⟨(m, m), w.u, w.es⟩
def Wb.one (p : Wb) (m : Int) : Wb := ⟨m, m, p.ul, p.uh, p.ea, p.ec, p.es⟩
/-- What the law has joined of the first lengths up to the t-th one. -/
def ownS (w : Wn) (t : Nat) : Sp := (lostK w t).foldl joiS (1073741824, -1073741824)
theorem own_no {w : Wn} {t : Nat} {a : Int} (ha : w.l.1 + (t : Int) = a) (h : possS (w.lost1 a) = false) : ownS w (t + 1) = ownS w t := by unfold ownS; rw [lostK_no ha h]
theorem own_yes {w : Wn} {t : Nat} {a : Int} (ha : w.l.1 + (t : Int) = a) (h : possS (w.lost1 a) = true) : ownS w (t + 1) = joiS (ownS w t) (a - (w.lost1 a).2, a - (w.lost1 a).1) := by unfold ownS; rw [lostK_yes ha h, List.foldl_append]; rfl
theorem own_all {w : Wn} (h : w.Fine) (hc : w.can = true) : ownS w w.nl = w.lost := by
  have hne := lostK_some h hc
  have hmem : ∀ x ∈ lostK w w.nl, -4000 ≤ x.1 ∧ x.1 ≤ 4000 ∧ -4000 ≤ x.2 ∧ x.2 ≤ 4000 := fun x hx => by
    obtain ⟨i, hi, _, rfl⟩ := lostK_mem.1 hx
    have hl := h.l
    unfold Wn.nl at hi
    have hb := lost_bd h (a := w.l.1 + (i : Int)) (by omega) (by omega) (Nat.le_refl w.es.length)
    unfold bdS at hb
    unfold Wn.lost1
    dsimp only
    omega
  unfold ownS Wn.lost joinK
  cases hL : lostK w w.nl with
  | nil => exact (hne hL).elim
  | cons x L =>
    rw [hL] at hmem
    have hx := hmem x List.mem_cons_self
    rw [List.foldl_cons, List.drop_one, List.tail_cons, List.length_cons, Nat.add_sub_cancel, List.take_length]
    congr 1
    unfold joiS
    dsimp only
    rw [Int.min_eq_right (by omega), Int.max_eq_right (by omega)]
    rfl
end Go.Proofs.YtdehgplklgfcdaaGreat
