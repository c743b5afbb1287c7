/-
  LAW: SettleRests: numbers.
-/
import Derived.Test.YtfjfkaaflghaiaaGh
import Derived.Test.YtfjfkaaflghaiaaHL1
namespace Go.Proofs.Ytfjfkaaflghaiaa
open Go.RowKit Go.Proofs.Try
attribute [local irreducible] Run wpK


theorem fall_mono {x y k : Int} (hk : 1 ≤ k) (h : x ≤ y) : fall x k ≤ fall y k := by
  unfold fall
  by_cases hx : x < 0
  · rw [if_pos hx]
    have h1 := fallP_bd (x := -x) (by omega) hk
    by_cases hy : y < 0
    · rw [if_pos hy]
      have := fallP_mono hk (show -y ≤ -x by omega)
      omega
    · rw [if_neg hy]
      have := fallP_bd (x := y) (by omega) hk
      omega
  · rw [if_neg hx, if_neg (by omega)]
    exact fallP_mono hk h
theorem heat_mono {u v : Tc → Int} : ∀ (l : List Tc) {x y : Int}, x ≤ y → (∀ t ∈ l, u t ≤ v t) → heat x (l.map u) ≤ heat y (l.map v)
  | [], _, _, h, _ => h
  | t :: l, x, y, h, hl => by
    show heat (x + u t) (l.map u) ≤ heat (y + v t) (l.map v)
    have := hl t List.mem_cons_self
    exact heat_mono l (by omega) fun t ht => hl t (List.mem_cons_of_mem _ ht)
theorem hL_mono {s : Sn} (hF : s.Fine) (b m : Int) {x y : Int} (h : x ≤ y) : heat x (hL s.ts b m false) ≤ heat y (hL s.ts b m true) :=
  heat_mono _ h fun t ht => by
    have := (hF.tc t (List.mem_filter.1 ht).1).h
    show t.2.2.1 ≤ t.2.2.2
    omega
theorem lo_hi {s : Sn} (hF : s.Fine) {b : Nat} (hb : b < s.bs.length) {k : Int} (hk : 1 ≤ k) : ∀ m, s.lo b k m ≤ s.hi b k m
  | 0 => by
    have := (hF.bkF hb).x
    exact hL_mono hF b 0 (by omega)
  | m + 1 => hL_mono hF b ((m + 1 : Nat) : Int) (fall_mono hk (lo_hi hF hb hk m))
/-- What is least and greatest of all ends. -/
theorem lows_is {s : Sn} (h : s.Fine) {b m : Nat} (hb : b < s.bs.length) (hm : m ≤ 200) : ∀ n, n ≤ slW (elB s.bs b) → 0 < n → (∀ i, i < n → s.lows b m n ≤ (s.en b (slN (elB s.bs b) i) m).1) ∧ ∃ i, i < n ∧ s.lows b m n = (s.en b (slN (elB s.bs b) i) m).1
  | 0, _, h0 => absurd h0 (Nat.lt_irrefl _)
  | n + 1, hn, _ => by
    have h1 := (en_bd h hb (k := slN (elB s.bs b) n) (by have := slN_bd (h.bkF hb) (i := n) hn; omega) hm).1
    have e : s.lows b m (n + 1) = min (s.lows b m n) (s.en b (slN (elB s.bs b) n) m).1 := rfl
    rw [e]
    cases n with
    | zero =>
      have e0 : s.lows b m 0 = 9223372036854775807 := rfl
      rw [e0]
      refine ⟨fun i hi => ?_, 0, Nat.zero_lt_one, by omega⟩
      have hi0 : i = 0 := by omega
      subst hi0
      omega
    | succ n =>
      obtain ⟨h2, i, hi, h3⟩ := lows_is h hb hm (n + 1) (by omega) (by omega)
      refine ⟨fun q hq => ?_, ?_⟩
      · by_cases hqn : q < n + 1
        · have := h2 q hqn; omega
        · have hq1 : q = n + 1 := by omega
          subst hq1
          omega
      · by_cases hle : s.lows b m (n + 1) ≤ (s.en b (slN (elB s.bs b) (n + 1)) m).1
        · exact ⟨i, by omega, by omega⟩
        · exact ⟨n + 1, by omega, by omega⟩
theorem highs_is {s : Sn} (h : s.Fine) {b m : Nat} (hb : b < s.bs.length) (hm : m ≤ 200) : ∀ n, n ≤ slW (elB s.bs b) → 0 < n → (∀ i, i < n → (s.en b (slN (elB s.bs b) i) m).2 ≤ s.highs b m n) ∧ ∃ i, i < n ∧ s.highs b m n = (s.en b (slN (elB s.bs b) i) m).2
  | 0, _, h0 => absurd h0 (Nat.lt_irrefl _)
  | n + 1, hn, _ => by
    have h1 := (en_bd h hb (k := slN (elB s.bs b) n) (by have := slN_bd (h.bkF hb) (i := n) hn; omega) hm).2
    have e : s.highs b m (n + 1) = max (s.highs b m n) (s.en b (slN (elB s.bs b) n) m).2 := rfl
    rw [e]
    cases n with
    | zero =>
      have e0 : s.highs b m 0 = -9223372036854775808 := rfl
      rw [e0]
      refine ⟨fun i hi => ?_, 0, Nat.zero_lt_one, by omega⟩
      have hi0 : i = 0 := by omega
      subst hi0
      omega
    | succ n =>
      obtain ⟨h2, i, hi, h3⟩ := highs_is h hb hm (n + 1) (by omega) (by omega)
      refine ⟨fun q hq => ?_, ?_⟩
      · by_cases hqn : q < n + 1
        · have := h2 q hqn; omega
        · have hq1 : q = n + 1 := by omega
          subst hq1
          omega
      · by_cases hle : (s.en b (slN (elB s.bs b) (n + 1)) m).2 ≤ s.highs b m (n + 1)
        · exact ⟨i, by omega, by omega⟩
        · exact ⟨n + 1, by omega, by omega⟩
theorem out_is {s : Sn} (h : s.Fine) {b m : Nat} (hb : b < s.bs.length) (hm : m ≤ 200) : (∀ i, i < slW (elB s.bs b) → (s.out b m).1 ≤ (s.en b (slN (elB s.bs b) i) m).1 ∧ (s.en b (slN (elB s.bs b) i) m).1 ≤ (s.en b (slN (elB s.bs b) i) m).2 ∧ (s.en b (slN (elB s.bs b) i) m).2 ≤ (s.out b m).2) ∧ (∃ i, i < slW (elB s.bs b) ∧ (s.out b m).1 = (s.en b (slN (elB s.bs b) i) m).1) ∧ ∃ i, i < slW (elB s.bs b) ∧ (s.out b m).2 = (s.en b (slN (elB s.bs b) i) m).2 := by
  have hB := h.bkF hb
  have hw := slW_bd hB
  have h1 := lows_is h hb hm _ (Nat.le_refl _) (show 0 < slW (elB s.bs b) by omega)
  have h2 := highs_is h hb hm _ (Nat.le_refl _) (show 0 < slW (elB s.bs b) by omega)
  exact ⟨fun i hi => ⟨h1.1 i hi, lo_hi h hb (by have := slN_bd hB hi; omega) m, h2.1 i hi⟩, h1.2, h2.2⟩
/-- What is told of a block in a minute. -/
theorem jo_is {s : Sn} (h : s.Fine) {b m : Nat} (hb : b < s.bs.length) (hm : m ≤ 200) {j : Int} (hj : s.judge b m = j) : (j = 2 ↔ -s.near ≤ (s.out b m).1 ∧ (s.out b m).2 ≤ s.near) ∧ (j ≠ 0 → (s.out b m).1 ≤ s.near ∧ -s.near ≤ (s.out b m).2) ∧ s.set b m = (j == 2) := by
  have hw := slW_bd (h.bkF hb)
  obtain ⟨ho, ⟨i1, hi1, e1⟩, ⟨i2, hi2, e2⟩⟩ := out_is h hb hm
  have hn := h.nr
  refine ⟨?_, fun hj0 => ?_, by unfold Sn.set; rw [hj]⟩
  · have h1 : s.set b m = true ↔ j = 2 := by unfold Sn.set; rw [hj, beq_iff_eq]
    rw [← h1, set_iff h hb]
    constructor
    · intro hh
      have a1 := hh i1 hi1
      have a2 := hh i2 hi2
      unfold nrS at a1 a2
      omega
    · intro hh i hi
      have := ho i hi
      unfold nrS
      omega
  · have zero : (∀ i, i < slW (elB s.bs b) → s.jd b m i = 0) → j = 0 := fun hz => by rw [← hj, judge_all fun i hi => by rw [hz i hi, hz 0 (by omega)], hz 0 (by omega)]
    constructor
    · by_cases hc : (s.out b m).1 ≤ s.near
      · exact hc
      · refine absurd (zero fun i hi => ?_) hj0
        have := ho i hi
        unfold Sn.jd jdE
        rw [if_neg (by omega), if_pos (by omega)]
    · by_cases hc : -s.near ≤ (s.out b m).2
      · exact hc
      · refine absurd (zero fun i hi => ?_) hj0
        have := ho i hi
        unfold Sn.jd jdE
        rw [if_neg (by omega), if_pos (by omega)]
theorem exc_is {s : Sn} {b m : Nat} (hok : s.ok = true) (hb : b < s.bs.length) (hm : (m : Int) ≤ s.last) : excR s b m = .inr (s.out b m) := by
  unfold excR Sn.isB Sn.isM inI
  rw [hok, decide_eq_true (show (0 : Int) ≤ (b : Int) ∧ (b : Int) ≤ (s.bs.length : Int) - 1 by omega), decide_eq_true (show (0 : Int) ≤ (m : Int) ∧ (m : Int) ≤ s.last by omega)]
  rfl
theorem when_is {s : Sn} {b : Nat} (hok : s.ok = true) (hb : b < s.bs.length) : whenR s b = fmR (s.frm [b] s.N) := by
  unfold whenR Sn.isB inI
  rw [hok, decide_eq_true (show (0 : Int) ≤ (b : Int) ∧ (b : Int) ≤ (s.bs.length : Int) - 1 by omega)]
  rfl
theorem rest_is {s : Sn} {b : Nat} (hok : s.ok = true) (hb : b < s.bs.length) : restR s b = .inr (s.rs b (s.N + 1)) := by
  unfold restR Sn.isB inI
  rw [hok, decide_eq_true (show (0 : Int) ≤ (b : Int) ∧ (b : Int) ≤ (s.bs.length : Int) - 1 by omega)]
  rfl
/-- What the minutes told are. -/
structure RsOk (P : Nat → Bool) (n : Nat) (L : List Sp) : Prop where
  bd : ∀ j, j < L.length → 0 ≤ (elS L j).1 ∧ (elS L j).1 ≤ (elS L j).2 ∧ (elS L j).2 < (n : Int)
  gap : ∀ j, j + 1 < L.length → (elS L j).2 + 1 < (elS L (j + 1)).1
  cov : ∀ m : Nat, m < n → (P m = true ↔ ∃ j, j < L.length ∧ (elS L j).1 ≤ (m : Int) ∧ (m : Int) ≤ (elS L j).2)
theorem elS_set {L : List Sp} {t : Nat} {x : Sp} (ht : t < L.length) (j : Nat) : elS (L.set t x) j = if j = t then x else elS L j := by
  unfold elS
  rw [List.getElem?_set]
  by_cases e : t = j
  · subst e; simp [ht]
  · rw [if_neg e, if_neg (Ne.symm e)]
theorem elS_app {L : List Sp} {x : Sp} (j : Nat) (hj : j < L.length + 1) : elS (L ++ [x]) j = if j = L.length then x else elS L j := by
  unfold elS
  by_cases e : j = L.length
  · subst e; simp
  · rw [if_neg e, List.getElem?_append_left (by omega)]
theorem rsP_ok (P : Nat → Bool) : ∀ n, RsOk P n (rsP P n)
  | 0 => ⟨fun j hj => absurd hj (Nat.not_lt_zero _), fun j hj => absurd hj (Nat.not_lt_zero _), fun m hm => absurd hm (Nat.not_lt_zero _)⟩
  | n + 1 => by
    have H := rsP_ok P n
    show RsOk P (n + 1) (bif P n then (if 0 < (rsP P n).length ∧ (elS (rsP P n) ((rsP P n).length - 1)).2 = (n : Int) - 1 then (rsP P n).set ((rsP P n).length - 1) ((elS (rsP P n) ((rsP P n).length - 1)).1, (n : Int)) else rsP P n ++ [((n : Int), (n : Int))]) else rsP P n)
    generalize rsP P n = L at H
    cases hp : P n with
    | false =>
      show RsOk P (n + 1) L
      refine ⟨fun j hj => ?_, H.gap, fun m hm => ?_⟩
      · have := H.bd j hj; omega
      · by_cases e : m = n
        · subst e
          rw [hp]
          constructor
          · intro h; cases h
          · rintro ⟨j, hj, h1, h2⟩
            have := H.bd j hj
            omega
        · exact H.cov m (by omega)
    | true =>
      show RsOk P (n + 1) (if 0 < L.length ∧ (elS L (L.length - 1)).2 = (n : Int) - 1 then L.set (L.length - 1) ((elS L (L.length - 1)).1, (n : Int)) else L ++ [((n : Int), (n : Int))])
      by_cases hc : 0 < L.length ∧ (elS L (L.length - 1)).2 = (n : Int) - 1
      · rw [if_pos hc]
        obtain ⟨t, ht⟩ : ∃ t, L.length = t + 1 := ⟨L.length - 1, by omega⟩
        rw [ht, Nat.add_sub_cancel] at hc ⊢
        have htl : t < L.length := by omega
        have hbt := H.bd t htl
        refine ⟨fun j hj => ?_, fun j hj => ?_, fun m hm => ?_⟩
        · rw [List.length_set] at hj
          rw [elS_set htl]
          have := H.bd j hj
          by_cases e : j = t
          · rw [if_pos e]; dsimp only; omega
          · rw [if_neg e]; omega
        · rw [List.length_set] at hj
          rw [elS_set htl, elS_set htl, if_neg (show ¬ j = t by omega)]
          have := H.gap j hj
          by_cases e : j + 1 = t
          · rw [if_pos e]; dsimp only; rw [← e]; exact this
          · rw [if_neg e]; exact this
        · rw [List.length_set]
          by_cases e : m = n
          · subst e
            rw [hp]
            refine ⟨fun _ => ⟨t, htl, ?_⟩, fun _ => rfl⟩
            rw [elS_set htl, if_pos rfl]
            dsimp only
            omega
          · rw [H.cov m (by omega)]
            constructor
            · rintro ⟨j, hj, h1, h2⟩
              refine ⟨j, hj, ?_⟩
              rw [elS_set htl]
              by_cases e2 : j = t
              · rw [if_pos e2]; subst e2; dsimp only; omega
              · rw [if_neg e2]; exact ⟨h1, h2⟩
            · rintro ⟨j, hj, h1, h2⟩
              rw [elS_set htl] at h1 h2
              by_cases e2 : j = t
              · rw [if_pos e2] at h1 h2
                dsimp only at h1 h2
                exact ⟨t, htl, h1, by omega⟩
              · rw [if_neg e2] at h1 h2
                exact ⟨j, hj, h1, h2⟩
      · rw [if_neg hc]
        have hlast : ∀ j, j + 1 = L.length → (elS L j).2 + 1 < (n : Int) := fun j hj => by
          have h1 := H.bd j (by omega)
          have h2 : ¬ (elS L j).2 = (n : Int) - 1 := fun h => hc ⟨by omega, by rw [show L.length - 1 = j by omega]; exact h⟩
          omega
        refine ⟨fun j hj => ?_, fun j hj => ?_, fun m hm => ?_⟩
        · rw [List.length_append, List.length_singleton] at hj
          rw [elS_app j hj]
          by_cases e : j = L.length
          · rw [if_pos e]; dsimp only; omega
          · rw [if_neg e]; have := H.bd j (by omega); omega
        · rw [List.length_append, List.length_singleton] at hj
          rw [elS_app j (by omega), elS_app (j + 1) hj, if_neg (show ¬ j = L.length by omega)]
          by_cases e : j + 1 = L.length
          · rw [if_pos e]; exact hlast j e
          · rw [if_neg e]; exact H.gap j (by omega)
        · rw [List.length_append, List.length_singleton]
          by_cases e : m = n
          · subst e
            rw [hp]
            refine ⟨fun _ => ⟨L.length, by omega, ?_⟩, fun _ => rfl⟩
            rw [elS_app _ (by omega), if_pos rfl]
            exact ⟨Int.le_refl _, Int.le_refl _⟩
          · rw [H.cov m (by omega)]
            constructor
            · rintro ⟨j, hj, h1⟩
              exact ⟨j, by omega, by rw [elS_app _ (by omega), if_neg (by omega)]; exact h1⟩
            · rintro ⟨j, hj, h1, h2⟩
              rw [elS_app _ hj] at h1 h2
              by_cases e2 : j = L.length
              · rw [if_pos e2] at h1 h2
                dsimp only at h1 h2
                omega
              · rw [if_neg e2] at h1 h2
                exact ⟨j, by omega, h1, h2⟩
theorem RsOk.far {P : Nat → Bool} {n : Nat} {L : List Sp} (H : RsOk P n L) {j : Nat} : ∀ d, j + 1 + d < L.length → (elS L j).2 + 1 < (elS L (j + 1 + d)).1
  | 0, h => H.gap j h
  | d + 1, h => by
    have h1 := H.far (j := j) d (by omega)
    have h2 := H.bd (j + 1 + d) (by omega)
    have h3 := H.gap (j + 1 + d) h
    rw [show j + 1 + (d + 1) = j + 1 + d + 1 by omega]
    omega
end Go.Proofs.Ytfjfkaaflghaiaa
