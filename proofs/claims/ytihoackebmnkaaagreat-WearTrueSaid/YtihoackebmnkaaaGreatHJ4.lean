/-
  LAW: WearTrue: numbers of the law.
-/
import Derived.Test.YtihoackebmnkaaaGreatHJ3
import Derived.Test.YtihoackebmnkaaaGreatGn
namespace Go.Proofs.YtihoackebmnkaaaGreat
open Go.RowKit Go.Proofs.Tryz


theorem has_bit0 (s n : Nat) : (((s >>> n &&& 1 : Nat) : Int) == 0) = !s.testBit n := by
  rw [← has_bit, Nat.and_one_is_mod]
  rcases Nat.mod_two_eq_zero_or_one (s >>> n) with h | h <;> rw [h] <;> rfl
theorem own_le {w : Wn} : ∀ t i : Nat, i < t → possS (w.lost1 (w.l.1 + (i : Int))) = true → (ownS w t).1 ≤ w.l.1 + (i : Int) - (w.lost1 (w.l.1 + (i : Int))).2 ∧ w.l.1 + (i : Int) - (w.lost1 (w.l.1 + (i : Int))).1 ≤ (ownS w t).2
  | 0, _, h, _ => absurd h (Nat.not_lt_zero _)
  | t + 1, i, hi, hb => by
    by_cases e : i = t
    · subst e
      rw [own_yes rfl hb]
      unfold joiS
      dsimp only
      omega
    · have ih := own_le t i (by omega) hb
      cases hc : possS (w.lost1 (w.l.1 + (t : Int))) with
      | false => rw [own_no rfl hc]; exact ih
      | true =>
        rw [own_yes rfl hc]
        unfold joiS
        dsimp only
        omega
theorem lost_has {w : Wn} (h : w.Fine) (hc : w.can = true) {a z : Int} (hw : w.Way a z) : inB (a - z) w.lost = true := by
  have h1 := (h.ok_.lost_in a z).2 hw.2
  have h2 := hw.1
  unfold inP at h2
  obtain ⟨i, hi⟩ : ∃ i : Nat, (i : Int) = a - w.l.1 := ⟨(a - w.l.1).toNat, by omega⟩
  have e : w.l.1 + (i : Int) = a := by omega
  have h3 := own_le (w := w) w.nl i (by unfold Wn.nl; omega) (by rw [e]; exact poss_iff.2 ⟨z, h1⟩)
  rw [own_all h hc, e] at h3
  have h4 := h1.1
  have h5 := h1.2
  exact decide_eq_true (by omega)
theorem clashR_ok {p : Wb} (h : p.n.Fine) (hc : p.n.can = true) : clashR p = .inl 4 := by unfold clashR; rw [h.okB, hc]; rfl
theorem lostR_ok {p : Wb} (h : p.n.Fine) (hc : p.n.can = true) : lostR p = .inr p.n.lost := by unfold lostR; rw [h.okB, hc]; rfl
theorem belowR_ok {p : Wb} (h : p.n.Fine) (hc : p.n.can = true) {m : Int} (hm : spI (m, m) (-1000) 1000 = true) {s b : Nat} (hs : belS p.n m p.es.length = s) (hb : belP p.n m p.es.length = b) : belowR p m = .inr ((s : Int), (b : Int)) := by unfold belowR; rw [h.okB, hc, hm, hs, hb]; rfl
theorem afterR_ok {p : Wb} (h : p.n.Fine) (hc : p.n.can = true) {k : Nat} (hk : k < p.es.length) : afterR p (k : Int) = .inr (mC p.n (k + 1)) := by unfold afterR; rw [h.okB, hc, decide_eq_true (show 0 ≤ (k : Int) ∧ (k : Int) < (p.es.length : Int) by omega), Int.toNat_natCast]; rfl
theorem fitsR_ok {p : Wb} (h : p.n.Fine) (hc : p.n.can = true) {s : Sp} (hs : spI s (-1000) 1000 = true) {g : Int} (hg : judV (mC p.n p.es.length) s = g) : fitsR p s = .inr g := by unfold fitsR; rw [h.okB, hc, hs, hg]; rfl
theorem bel_sub {w : Wn} (h : w.Fine) (hc : w.can = true) (m : Int) {n : Nat} (hn : n ≤ w.es.length) {s b : Nat} (hs : belS w m n = s) (hb : belP w m n = b) : s ^^^ (s &&& b) = 0 := by
  apply Nat.eq_of_testBit_eq
  intro i
  rw [Nat.testBit_xor, Nat.testBit_and, Nat.zero_testBit, ← hs, ← hb]
  unfold belS belP
  rw [bitsP_has, bitsP_has]
  by_cases hi : i < n
  · have hp : (mC w (i + 1)).1 ≤ (mC w (i + 1)).2 := by
      rw [mC_le w (show i + 1 ≤ w.es.length by omega)]
      exact h.ok_.poss hc (i + 1)
    rw [decide_eq_true hi]
    by_cases h2 : (mC w (i + 1)).2 < m
    · rw [decide_eq_true h2, decide_eq_true (show (mC w (i + 1)).1 < m by omega)]
      rfl
    · rw [decide_eq_false h2]
      rfl
  · rw [decide_eq_false hi]
    rfl
theorem bel_lt8 {w : Wn} {m : Int} {n : Nat} (hn : n ≤ 8) {s b : Nat} (hs : belS w m n = s) (hb : belP w m n = b) : s < 256 ∧ b < 256 := by
  have := bel_lt (w := w) m hn
  rw [hs, hb] at this
  exact this
theorem bel_bits {w : Wn} {m : Int} {n i : Nat} (hi : i < n) {s b : Nat} (hs : belS w m n = s) (hb : belP w m n = b) : s.testBit i = decide ((mC w (i + 1)).2 < m) ∧ b.testBit i = decide ((mC w (i + 1)).1 < m) := by
  have := bel_bit (w := w) (m := m) hi
  rw [hs, hb] at this
  exact this
theorem TruW.mC {w : Wn} {t : Nat → Int} (h : TruW w t) (hF : w.Fine) {j : Nat} (hj : j ≤ w.es.length) : (_root_.Go.Proofs.YtihoackebmnkaaaGreat.mC w j).1 ≤ t j ∧ t j ≤ (_root_.Go.Proofs.YtihoackebmnkaaaGreat.mC w j).2 := by
  rw [mC_le w hj]
  exact (hF.ok_.B_in j _).2 (h.at hj)
/-- What is left of a length after the uses of days, by what is drawn. -/
def ndT (L : List Int) (u : Sp) (D : List Int) (x : Int) : Nat → Nat × Int
  | 0 => (0, x)
  | k + 1 => ((ndT L u D x k).1 + (elI D k).toNat, usD L u (ndT L u D x k).1 (ndT L u D x k).2 (elI D k).toNat)
theorem nd_bd (L : List Int) {q : Wb} {D : List Int} {x : Int} (hu : 0 ≤ q.ul ∧ q.ul ≤ q.uh ∧ q.uh ≤ 3) (hv : D.all vUses = true) (hx : (mC q.n q.es.length).1 ≤ x) : ∀ k, k ≤ D.length → (ndT L (q.ul, q.uh) D x k).1 ≤ 20 * k ∧ nowS q D k ≤ (ndT L (q.ul, q.uh) D x k).2 ∧ (ndT L (q.ul, q.uh) D x k).2 ≤ x
  | 0, _ => by
    rw [now_zero]
    unfold ndT
    dsimp only
    omega
  | k + 1, h => by
    have ih := nd_bd L hu hv hx k (by omega)
    have h1 := use_of hv (i := k) (by omega)
    rw [now_next (by omega)]
    have h2 := usD_bd L (u := (q.ul, q.uh)) hu.2.1 (ndT L (q.ul, q.uh) D x k).1 (ndT L (q.ul, q.uh) D x k).2 (elI D k).toNat
    rw [Int.toNat_of_nonneg h1.1] at h2
    dsimp only at h2
    have h3 := Int.mul_nonneg h1.1 hu.1
    unfold ndT
    dsimp only
    omega
theorem DayIs.le {p : Wb} {m dv de : Int} {D : List Int} (h : DayIs p m D dv de) {j : Nat} (hj : j < D.length) (h1 : nowS p D (j + 1) < m) : de = 0 ∧ dv ≤ (j : Int) := by
  rcases h with ⟨_, _, h3⟩ | ⟨y, hy, e1, e2, h3, h4⟩
  · exact absurd h1 (Int.not_lt.2 (h3 j hj))
  · refine ⟨e1, ?_⟩
    rcases Nat.lt_or_ge j y with h | h
    · exact absurd h1 (Int.not_lt.2 (h4 j h))
    · omega
theorem DayIs.of {p : Wb} {m dv de : Int} {D : List Int} (h : DayIs p m D dv de) : (de = 4 ∧ dv = 0) ∨ (de = 0 ∧ 0 ≤ dv ∧ dv < (D.length : Int)) := by
  rcases h with ⟨e1, e2, _⟩ | ⟨y, hy, e1, e2, _, _⟩
  · exact .inl ⟨e1, e2⟩
  · exact .inr ⟨e1, by omega, by omega⟩
theorem cut_one1 {g cap : Nat} (h : 1 < cap) : some (cutA g 0 1 cap 1) = some (⟨g, 1, none⟩ : Addr) := by
  unfold cutA
  simp
  omega
end Go.Proofs.YtihoackebmnkaaaGreat
