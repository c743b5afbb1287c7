/-
  LAW: SettleRests: numbers.
-/
import Derived.Test.YtfjfkaaflghaiaaGg
namespace Go.Proofs.Ytfjfkaaflghaiaa
open Go.RowKit Go.Proofs.Try
attribute [local irreducible] Run wpK


theorem fall_mono {x y k : Int} (hk : 1 ≤ k) (h : x ≤ y) : fall x k ≤ fall y k := by
  unfold fall
  by_cases hx : x < 0
  · rw [if_pos hx]
    have h1 := fallP_bd (x := -x) (by omega) hk
    by_cases hy : y < 0
    · rw [if_pos hy]
      have := fallP_mono hk (show -y ≤ -x by omega)
      omega
    · rw [if_neg hy]
      have := fallP_bd (x := y) (by omega) hk
      omega
  · rw [if_neg hx, if_neg (by omega)]
    exact fallP_mono hk h
theorem heat_mono {u v : Tc → Int} : ∀ (l : List Tc) {x y : Int}, x ≤ y → (∀ t ∈ l, u t ≤ v t) → heat x (l.map u) ≤ heat y (l.map v)
  | [], _, _, h, _ => h
  | t :: l, x, y, h, hl => by
    show heat (x + u t) (l.map u) ≤ heat (y + v t) (l.map v)
    have := hl t List.mem_cons_self
    exact heat_mono l (by omega) fun t ht => hl t (List.mem_cons_of_mem _ ht)
theorem hL_mono {s : Sn} (hF : s.Fine) (b m : Int) {x y : Int} (h : x ≤ y) : heat x (hL s.ts b m false) ≤ heat y (hL s.ts b m true) :=
  heat_mono _ h fun t ht => by
    have := (hF.tc t (List.mem_filter.1 ht).1).h
    show t.2.2.1 ≤ t.2.2.2
    omega
theorem lo_hi {s : Sn} (hF : s.Fine) {b : Nat} (hb : b < s.bs.length) {k : Int} (hk : 1 ≤ k) : ∀ m, s.lo b k m ≤ s.hi b k m
  | 0 => by
    have := (hF.bkF hb).x
    exact hL_mono hF b 0 (by omega)
  | m + 1 => hL_mono hF b ((m + 1 : Nat) : Int) (fall_mono hk (lo_hi hF hb hk m))
/-- What is least and greatest of all ends. -/
theorem lows_is {s : Sn} (h : s.Fine) {b m : Nat} (hb : b < s.bs.length) (hm : m ≤ 200) : ∀ n, n ≤ slW (elB s.bs b) → 0 < n → (∀ i, i < n → s.lows b m n ≤ (s.en b (slN (elB s.bs b) i) m).1) ∧ ∃ i, i < n ∧ s.lows b m n = (s.en b (slN (elB s.bs b) i) m).1
  | 0, _, h0 => absurd h0 (Nat.lt_irrefl _)
  | n + 1, hn, _ => by
    have h1 := (en_bd h hb (k := slN (elB s.bs b) n) (by have := slN_bd (h.bkF hb) (i := n) hn; omega) hm).1
    have e : s.lows b m (n + 1) = min (s.lows b m n) (s.en b (slN (elB s.bs b) n) m).1 := rfl
    rw [e]
    cases n with
    | zero =>
      have e0 : s.lows b m 0 = 9223372036854775807 := rfl
      rw [e0]
      refine ⟨fun i hi => ?_, 0, Nat.zero_lt_one, by omega⟩
      have hi0 : i = 0 := by omega
      subst hi0
      omega
    | succ n =>
      obtain ⟨h2, i, hi, h3⟩ := lows_is h hb hm (n + 1) (by omega) (by omega)
      refine ⟨fun q hq => ?_, ?_⟩
      · by_cases hqn : q < n + 1
        · have := h2 q hqn; omega
        · have hq1 : q = n + 1 := by omega
          subst hq1
          omega
      · by_cases hle : s.lows b m (n + 1) ≤ (s.en b (slN (elB s.bs b) (n + 1)) m).1
        · exact ⟨i, by omega, by omega⟩
        · exact ⟨n + 1, by omega, by omega⟩
theorem highs_is {s : Sn} (h : s.Fine) {b m : Nat} (hb : b < s.bs.length) (hm : m ≤ 200) : ∀ n, n ≤ slW (elB s.bs b) → 0 < n → (∀ i, i < n → (s.en b (slN (elB s.bs b) i) m).2 ≤ s.highs b m n) ∧ ∃ i, i < n ∧ s.highs b m n = (s.en b (slN (elB s.bs b) i) m).2
  | 0, _, h0 => absurd h0 (Nat.lt_irrefl _)
  | n + 1, hn, _ => by
    have h1 := (en_bd h hb (k := slN (elB s.bs b) n) (by have := slN_bd (h.bkF hb) (i := n) hn; omega) hm).2
    have e : s.highs b m (n + 1) = max (s.highs b m n) (s.en b (slN (elB s.bs b) n) m).2 := rfl
    rw [e]
    cases n with
    | zero =>
      have e0 : s.highs b m 0 = -9223372036854775808 := rfl
      rw [e0]
      refine ⟨fun i hi => ?_, 0, Nat.zero_lt_one, by omega⟩
      have hi0 : i = 0 := by omega
      subst hi0
      omega
    | succ n =>
      obtain ⟨h2, i, hi, h3⟩ := highs_is h hb hm (n + 1) (by omega) (by omega)
      refine ⟨fun q hq => ?_, ?_⟩
      · by_cases hqn : q < n + 1
        · have := h2 q hqn; omega
        · have hq1 : q = n + 1 := by omega
          subst hq1
          omega
      · by_cases hle : (s.en b (slN (elB s.bs b) (n + 1)) m).2 ≤ s.highs b m (n + 1)
        · exact ⟨i, by omega, by omega⟩
        · exact ⟨n + 1, by omega, by omega⟩
theorem out_is {s : Sn} (h : s.Fine) {b m : Nat} (hb : b < s.bs.length) (hm : m ≤ 200) : (∀ i, i < slW (elB s.bs b) → (s.out b m).1 ≤ (s.en b (slN (elB s.bs b) i) m).1 ∧ (s.en b (slN (elB s.bs b) i) m).1 ≤ (s.en b (slN (elB s.bs b) i) m).2 ∧ (s.en b (slN (elB s.bs b) i) m).2 ≤ (s.out b m).2) ∧ (∃ i, i < slW (elB s.bs b) ∧ (s.out b m).1 = (s.en b (slN (elB s.bs b) i) m).1) ∧ ∃ i, i < slW (elB s.bs b) ∧ (s.out b m).2 = (s.en b (slN (elB s.bs b) i) m).2 := by
  have hB := h.bkF hb
  have hw := slW_bd hB
  have h1 := lows_is h hb hm _ (Nat.le_refl _) (show 0 < slW (elB s.bs b) by omega)
  have h2 := highs_is h hb hm _ (Nat.le_refl _) (show 0 < slW (elB s.bs b) by omega)
  exact ⟨fun i hi => ⟨h1.1 i hi, lo_hi h hb (by have := slN_bd hB hi; omega) m, h2.1 i hi⟩, h1.2, h2.2⟩
theorem exc_is {s : Sn} {b m : Nat} (hok : s.ok = true) (hb : b < s.bs.length) (hm : (m : Int) ≤ s.last) : excR s b m = .inr (s.out b m) := by
  unfold excR Sn.isB Sn.isM inI
  rw [hok, decide_eq_true (show (0 : Int) ≤ (b : Int) ∧ (b : Int) ≤ (s.bs.length : Int) - 1 by omega), decide_eq_true (show (0 : Int) ≤ (m : Int) ∧ (m : Int) ≤ s.last by omega)]
  rfl
/-- What the minutes told are. -/
structure RsOk (P : Nat → Bool) (n : Nat) (L : List Sp) : Prop where
  bd : ∀ j, j < L.length → 0 ≤ (elS L j).1 ∧ (elS L j).1 ≤ (elS L j).2 ∧ (elS L j).2 < (n : Int)
  gap : ∀ j, j + 1 < L.length → (elS L j).2 + 1 < (elS L (j + 1)).1
  cov : ∀ m : Nat, m < n → (P m = true ↔ ∃ j, j < L.length ∧ (elS L j).1 ≤ (m : Int) ∧ (m : Int) ≤ (elS L j).2)
theorem RsOk.far {P : Nat → Bool} {n : Nat} {L : List Sp} (H : RsOk P n L) {j : Nat} : ∀ d, j + 1 + d < L.length → (elS L j).2 + 1 < (elS L (j + 1 + d)).1
  | 0, h => H.gap j h
  | d + 1, h => by
    have h1 := H.far (j := j) d (by omega)
    have h2 := H.bd (j + 1 + d) (by omega)
    have h3 := H.gap (j + 1 + d) h
    rw [show j + 1 + (d + 1) = j + 1 + d + 1 by omega]
    omega
end Go.Proofs.Ytfjfkaaflghaiaa
