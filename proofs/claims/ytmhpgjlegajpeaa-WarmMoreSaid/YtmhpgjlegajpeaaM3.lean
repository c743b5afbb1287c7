/-
  WarmMore: its numbers as the law asks for them.
-/
import Derived.Test.YtmhpgjlegajpeaaM2
namespace Go.Proofs.Ytmhpgjlegajpeaa
open Go.RowKit

theorem Less.same (B : Wm) : Less B B := ⟨rfl, rfl, fun _ h => h⟩
/-- What is told of a block that has fewer truths, beside what is told of the other one. -/
def Narrower (A B : Wm) (t off : Int) : Prop :=
  A.coeffA.2 = A.lenA.2 ∧ (A.showsA t t).2 = A.lenA.2 ∧ (A.roomA off).2 = A.lenA.2 ∧ A.countA.2 = 0 ∧ A.countA.1 ≤ B.countA.1 ∧
  (A.lenA.2 = 10 ∨ (A.lenA.2 = 0 ∧ B.lenA.2 = 0 ∧ (B.lenA.1.1 ≤ A.lenA.1.1 ∧ A.lenA.1.2 ≤ B.lenA.1.2) ∧ (B.coeffA.1.1 ≤ A.coeffA.1.1 ∧ A.coeffA.1.2 ≤ B.coeffA.1.2) ∧
    ((B.showsA t t).1.1 ≤ (A.showsA t t).1.1 ∧ (A.showsA t t).1.2 ≤ (B.showsA t t).1.2) ∧ (B.roomA off).1 ≤ (A.roomA off).1))
theorem Less.narrower {A B : Wm} (h : Less A B) (hA : A.ok = true) (hB : B.ok = true) {t off : Int} (t0 : -100 ≤ t) (t1 : t ≤ 100) (o0 : 0 ≤ off) (o1 : off ≤ 30000) : Narrower A B t off := by
  have hc : A.countA.2 = 0 ∧ A.countA.1 ≤ B.countA.1 := by
    unfold Wm.countA
    rw [if_pos hA, if_pos hB]
    refine ⟨rfl, ?_⟩
    have := h.len
    show (A.truths.length : Int) ≤ (B.truths.length : Int)
    omega
  have hin : inS t t (-100) 100 = true := by unfold inS; simp only [decide_eq_true_eq]; omega
  cases tA : A.truths.isEmpty with
  | true =>
    have e1 : A.lenA.2 = 10 := by rw [Wm.lenA, say_none hA tA]
    have e2 : A.coeffA.2 = 10 := by rw [Wm.coeffA, say_none hA tA]
    have e3 : (A.showsA t t).2 = 10 := by rw [Wm.showsA, if_pos hin, say_none hA tA]
    have e4 : (A.roomA off).2 = 10 := by rw [Wm.roomA, if_pos ⟨o0, o1⟩, say_none hA tA]
    exact ⟨by rw [e1, e2], by rw [e1, e3], by rw [e1, e4], hc.1, hc.2, .inl e1⟩
  | false =>
    have tB : B.truths.isEmpty = false := by
      cases tB : B.truths.isEmpty with
      | false => rfl
      | true => rw [h.none tB] at tA; cases tA
    obtain ⟨u, v, u', v', a1, a2, a3, a4⟩ := h.lenA hA hB tA tB
    obtain ⟨p, q, p', q', b1, b2, b3, b4⟩ := h.coeffA hA hB tA tB
    obtain ⟨x, y, x', y', c1, c2, c3, c4⟩ := h.showsA hA hB tA tB t0 t1
    obtain ⟨n, n', d1, d2, d3⟩ := h.roomA hA hB tA tB o0 o1
    unfold Narrower
    rw [a1, a2, b1, b2, c1, c2, d1, d2]
    dsimp only
    exact ⟨rfl, rfl, rfl, hc.1, hc.2, .inr ⟨rfl, rfl, ⟨a3, a4⟩, ⟨b3, b4⟩, ⟨c3, c4⟩, by omega⟩⟩
/-- The order of readings makes no difference. -/
theorem turned_truths {A B : Wm} (hm : A.mark = B.mark) (ha : A.all = B.all) (hr : A.rs = B.rs.reverse) : A.truths = B.truths := by
  unfold Wm.truths Wm.leftBy
  rw [ha, hm, hr]
  refine List.filter_congr fun p _ => ?_
  unfold okAll
  rw [List.all_reverse]
theorem turned_ok {A B : Wm} (h1 : A.mark = B.mark) (h2 : A.llo = B.llo) (h3 : A.lhi = B.lhi) (h4 : A.clo = B.clo) (h5 : A.chi = B.chi) (hr : A.rs = B.rs.reverse) : A.ok = B.ok := by
  unfold Wm.ok vWrs
  rw [h1, h2, h3, h4, h5, hr, List.all_reverse, List.length_reverse]
theorem turned_same {A B : Wm} (hm : A.mark = B.mark) (hk : A.ok = B.ok) (hT : A.truths = B.truths) (t off : Int) : A.lenA = B.lenA ∧ A.coeffA = B.coeffA ∧ A.showsA t t = B.showsA t t ∧ A.roomA off = B.roomA off ∧ A.countA = B.countA := by
  refine ⟨?_, ?_, ?_, ?_, ?_⟩
  · unfold Wm.lenA Wm.say; rw [hk, hT]
  · unfold Wm.coeffA Wm.say; rw [hk, hT]
  · unfold Wm.showsA Wm.say Wm.showL; rw [hk, hT, hm]
  · unfold Wm.roomA Wm.say; rw [hk, hT, hm]
  · unfold Wm.countA; rw [hk, hT]
end Go.Proofs.Ytmhpgjlegajpeaa
