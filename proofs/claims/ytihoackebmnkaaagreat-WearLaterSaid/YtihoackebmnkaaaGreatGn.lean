/-
  LAW: with: a block with an event more.
  LAW: a block with a reading more: numbers.
  LAW: with, by numbers; WearEnds: numbers.
-/
import Derived.Test.YtihoackebmnkaaaGreatGi
import Derived.Test.YtihoackebmnkaaaGreatGb
namespace Go.Proofs.YtihoackebmnkaaaGreat
open Go.RowKit Go.Proofs.Tryz


def Wn.add (w : Wn) (x : Ev) : Wn := ⟨w.l, w.u, w.es ++ [x]⟩
/-- A block with an event more, whose events lie elsewhere. -/
def Wb.add (p : Wb) (x : Ev) (a : Option Addr) (c : Nat) : Wb := ⟨p.ll, p.lh, p.ul, p.uh, a, c, p.es ++ [x]⟩
theorem FW_add (u l : Sp) (es : List Ev) (x : Ev) {i : Nat} (h : i ≤ es.length) : FW u l (es ++ [x]) i = FW u l es i := by
  unfold FW
  rw [List.take_append_of_le_length h]
theorem elE_add (es : List Ev) (x : Ev) : elE (es ++ [x]) es.length = x := by
  unfold elE
  rw [List.getElem?_append_right (Nat.le_refl _), Nat.sub_self]
  rfl
theorem FW_addL (u l : Sp) (es : List Ev) (x : Ev) : FW u l (es ++ [x]) (es.length + 1) = fwdE u x (FW u l es es.length) := by
  rw [FW_next u l (by simp), FW_add u l es x (Nat.le_refl _), elE_add]
theorem fwd_read {u : Sp} {x : Ev} (h : x.1 = 1) (k : Sp) : fwdE u x k = cutS k x.2.2 := by
  unfold fwdE
  rw [show (x.1 == 0) = false by rw [h]; rfl, show (x.1 == 2) = false by rw [h]; rfl]
  rfl
theorem B_last (w : Wn) : w.B w.es.length = FW w.u w.l w.es w.es.length := BW_last _ _ _
theorem lostK_congr {w v : Wn} (hl : w.l = v.l) : ∀ t : Nat, (∀ i : Nat, i < t → possS (w.lost1 (w.l.1 + (i : Int))) = possS (v.lost1 (w.l.1 + (i : Int))) ∧ (possS (w.lost1 (w.l.1 + (i : Int))) = true → w.lost1 (w.l.1 + (i : Int)) = v.lost1 (w.l.1 + (i : Int)))) → lostK w t = lostK v t
  | 0, _ => rfl
  | t + 1, h => by
    have ih := lostK_congr hl t fun i hi => h i (by omega)
    have h1 := h t (by omega)
    cases hb : possS (w.lost1 (w.l.1 + (t : Int))) with
    | false => rw [lostK_no rfl hb, lostK_no (by rw [hl]) (h1.1.symm.trans hb), ih]
    | true => rw [lostK_yes rfl hb, lostK_yes (by rw [hl]) (h1.1.symm.trans hb), ih, h1.2 hb]
/-- A block whose first length is known. -/
def Wn.one (w : Wn) (m : Int) : Wn := ⟨(m, m), w.u, w.es⟩
def Wb.one (p : Wb) (m : Int) : Wb := ⟨m, m, p.ul, p.uh, p.ea, p.ec, p.es⟩
end Go.Proofs.YtihoackebmnkaaaGreat
