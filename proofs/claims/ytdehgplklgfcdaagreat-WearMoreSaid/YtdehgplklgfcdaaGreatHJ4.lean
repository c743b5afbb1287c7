/-
  LAW: WearTrue: numbers of the law.
-/
import Derived.Test.YtdehgplklgfcdaaGreatHJ3
import Derived.Test.YtdehgplklgfcdaaGreatGn
namespace Go.Proofs.YtdehgplklgfcdaaGreat
open Go.RowKit Go.Proofs.Tryz


theorem has_bit0 (s n : Nat) : (((s >>> n &&& 1 : Nat) : Int) == 0) = !s.testBit n := by
  rw [← has_bit, Nat.and_one_is_mod]
  rcases Nat.mod_two_eq_zero_or_one (s >>> n) with h | h <;> rw [h] <;> rfl
theorem own_le {w : Wn} : ∀ t i : Nat, i < t → possS (w.lost1 (w.l.1 + (i : Int))) = true → (ownS w t).1 ≤ w.l.1 + (i : Int) - (w.lost1 (w.l.1 + (i : Int))).2 ∧ w.l.1 + (i : Int) - (w.lost1 (w.l.1 + (i : Int))).1 ≤ (ownS w t).2
  | 0, _, h, _ => absurd h (Nat.not_lt_zero _)
  | t + 1, i, hi, hb => by
    by_cases e : i = t
    · subst e
      rw [own_yes rfl hb]
      unfold joiS
      dsimp only
      omega
    · have ih := own_le t i (by omega) hb
      cases hc : possS (w.lost1 (w.l.1 + (t : Int))) with
      | false => rw [own_no rfl hc]; exact ih
      | true =>
        rw [own_yes rfl hc]
        unfold joiS
        dsimp only
        omega
theorem lost_has {w : Wn} (h : w.Fine) (hc : w.can = true) {a z : Int} (hw : w.Way a z) : inB (a - z) w.lost = true := by
  have h1 := (h.ok_.lost_in a z).2 hw.2
  have h2 := hw.1
  unfold inP at h2
  obtain ⟨i, hi⟩ : ∃ i : Nat, (i : Int) = a - w.l.1 := ⟨(a - w.l.1).toNat, by omega⟩
  have e : w.l.1 + (i : Int) = a := by omega
  have h3 := own_le (w := w) w.nl i (by unfold Wn.nl; omega) (by rw [e]; exact poss_iff.2 ⟨z, h1⟩)
  rw [own_all h hc, e] at h3
  have h4 := h1.1
  have h5 := h1.2
  exact decide_eq_true (by omega)
theorem lostR_ok {p : Wb} (h : p.n.Fine) (hc : p.n.can = true) : lostR p = .inr p.n.lost := by unfold lostR; rw [h.okB, hc]; rfl
theorem belowR_ok {p : Wb} (h : p.n.Fine) (hc : p.n.can = true) {m : Int} (hm : spI (m, m) (-1000) 1000 = true) {s b : Nat} (hs : belS p.n m p.es.length = s) (hb : belP p.n m p.es.length = b) : belowR p m = .inr ((s : Int), (b : Int)) := by unfold belowR; rw [h.okB, hc, hm, hs, hb]; rfl
theorem afterR_ok {p : Wb} (h : p.n.Fine) (hc : p.n.can = true) {k : Nat} (hk : k < p.es.length) : afterR p (k : Int) = .inr (mC p.n (k + 1)) := by unfold afterR; rw [h.okB, hc, decide_eq_true (show 0 ≤ (k : Int) ∧ (k : Int) < (p.es.length : Int) by omega), Int.toNat_natCast]; rfl
theorem bel_lt8 {w : Wn} {m : Int} {n : Nat} (hn : n ≤ 8) {s b : Nat} (hs : belS w m n = s) (hb : belP w m n = b) : s < 256 ∧ b < 256 := by
  have := bel_lt (w := w) m hn
  rw [hs, hb] at this
  exact this
theorem bel_bits {w : Wn} {m : Int} {n i : Nat} (hi : i < n) {s b : Nat} (hs : belS w m n = s) (hb : belP w m n = b) : s.testBit i = decide ((mC w (i + 1)).2 < m) ∧ b.testBit i = decide ((mC w (i + 1)).1 < m) := by
  have := bel_bit (w := w) (m := m) hi
  rw [hs, hb] at this
  exact this
theorem TruW.mC {w : Wn} {t : Nat → Int} (h : TruW w t) (hF : w.Fine) {j : Nat} (hj : j ≤ w.es.length) : (_root_.Go.Proofs.YtdehgplklgfcdaaGreat.mC w j).1 ≤ t j ∧ t j ≤ (_root_.Go.Proofs.YtdehgplklgfcdaaGreat.mC w j).2 := by
  rw [mC_le w hj]
  exact (hF.ok_.B_in j _).2 (h.at hj)
theorem DayIs.of {p : Wb} {m dv de : Int} {D : List Int} (h : DayIs p m D dv de) : (de = 4 ∧ dv = 0) ∨ (de = 0 ∧ 0 ≤ dv ∧ dv < (D.length : Int)) := by
  rcases h with ⟨e1, e2, _⟩ | ⟨y, hy, e1, e2, _, _⟩
  · exact .inl ⟨e1, e2⟩
  · exact .inr ⟨e1, by omega, by omega⟩
end Go.Proofs.YtdehgplklgfcdaaGreat
