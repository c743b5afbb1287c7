/-
  LAW: SettleRests: numbers.
  LAW: SettleRests: numbers: from when on, and all.
-/
import Derived.Test.YtfjfkaaflghaiaaGg
namespace Go.Proofs.Ytfjfkaaflghaiaa
open Go.RowKit Go.Proofs.Try
attribute [local irreducible] Run wpK


theorem fall_mono {x y k : Int} (hk : 1 ≤ k) (h : x ≤ y) : fall x k ≤ fall y k := by
  unfold fall
  by_cases hx : x < 0
  · rw [if_pos hx]
    have h1 := fallP_bd (x := -x) (by omega) hk
    by_cases hy : y < 0
    · rw [if_pos hy]
      have := fallP_mono hk (show -y ≤ -x by omega)
      omega
    · rw [if_neg hy]
      have := fallP_bd (x := y) (by omega) hk
      omega
  · rw [if_neg hx, if_neg (by omega)]
    exact fallP_mono hk h
theorem heat_mono {u v : Tc → Int} : ∀ (l : List Tc) {x y : Int}, x ≤ y → (∀ t ∈ l, u t ≤ v t) → heat x (l.map u) ≤ heat y (l.map v)
  | [], _, _, h, _ => h
  | t :: l, x, y, h, hl => by
    show heat (x + u t) (l.map u) ≤ heat (y + v t) (l.map v)
    have := hl t List.mem_cons_self
    exact heat_mono l (by omega) fun t ht => hl t (List.mem_cons_of_mem _ ht)
theorem hL_mono {s : Sn} (hF : s.Fine) (b m : Int) {x y : Int} (h : x ≤ y) : heat x (hL s.ts b m false) ≤ heat y (hL s.ts b m true) :=
  heat_mono _ h fun t ht => by
    have := (hF.tc t (List.mem_filter.1 ht).1).h
    show t.2.2.1 ≤ t.2.2.2
    omega
theorem lo_hi {s : Sn} (hF : s.Fine) {b : Nat} (hb : b < s.bs.length) {k : Int} (hk : 1 ≤ k) : ∀ m, s.lo b k m ≤ s.hi b k m
  | 0 => by
    have := (hF.bkF hb).x
    exact hL_mono hF b 0 (by omega)
  | m + 1 => hL_mono hF b ((m + 1 : Nat) : Int) (fall_mono hk (lo_hi hF hb hk m))
/-- What is least and greatest of all ends. -/
theorem lows_is {s : Sn} (h : s.Fine) {b m : Nat} (hb : b < s.bs.length) (hm : m ≤ 200) : ∀ n, n ≤ slW (elB s.bs b) → 0 < n → (∀ i, i < n → s.lows b m n ≤ (s.en b (slN (elB s.bs b) i) m).1) ∧ ∃ i, i < n ∧ s.lows b m n = (s.en b (slN (elB s.bs b) i) m).1
  | 0, _, h0 => absurd h0 (Nat.lt_irrefl _)
  | n + 1, hn, _ => by
    have h1 := (en_bd h hb (k := slN (elB s.bs b) n) (by have := slN_bd (h.bkF hb) (i := n) hn; omega) hm).1
    have e : s.lows b m (n + 1) = min (s.lows b m n) (s.en b (slN (elB s.bs b) n) m).1 := rfl
    rw [e]
    cases n with
    | zero =>
      have e0 : s.lows b m 0 = 9223372036854775807 := rfl
      rw [e0]
      refine ⟨fun i hi => ?_, 0, Nat.zero_lt_one, by omega⟩
      have hi0 : i = 0 := by omega
      subst hi0
      omega
    | succ n =>
      obtain ⟨h2, i, hi, h3⟩ := lows_is h hb hm (n + 1) (by omega) (by omega)
      refine ⟨fun q hq => ?_, ?_⟩
      · by_cases hqn : q < n + 1
        · have := h2 q hqn; omega
        · have hq1 : q = n + 1 := by omega
          subst hq1
          omega
      · by_cases hle : s.lows b m (n + 1) ≤ (s.en b (slN (elB s.bs b) (n + 1)) m).1
        · exact ⟨i, by omega, by omega⟩
        · exact ⟨n + 1, by omega, by omega⟩
theorem highs_is {s : Sn} (h : s.Fine) {b m : Nat} (hb : b < s.bs.length) (hm : m ≤ 200) : ∀ n, n ≤ slW (elB s.bs b) → 0 < n → (∀ i, i < n → (s.en b (slN (elB s.bs b) i) m).2 ≤ s.highs b m n) ∧ ∃ i, i < n ∧ s.highs b m n = (s.en b (slN (elB s.bs b) i) m).2
  | 0, _, h0 => absurd h0 (Nat.lt_irrefl _)
  | n + 1, hn, _ => by
    have h1 := (en_bd h hb (k := slN (elB s.bs b) n) (by have := slN_bd (h.bkF hb) (i := n) hn; omega) hm).2
    have e : s.highs b m (n + 1) = max (s.highs b m n) (s.en b (slN (elB s.bs b) n) m).2 := rfl
    rw [e]
    cases n with
    | zero =>
      have e0 : s.highs b m 0 = -9223372036854775808 := rfl
      rw [e0]
      refine ⟨fun i hi => ?_, 0, Nat.zero_lt_one, by omega⟩
      have hi0 : i = 0 := by omega
      subst hi0
      omega
    | succ n =>
      obtain ⟨h2, i, hi, h3⟩ := highs_is h hb hm (n + 1) (by omega) (by omega)
      refine ⟨fun q hq => ?_, ?_⟩
      · by_cases hqn : q < n + 1
        · have := h2 q hqn; omega
        · have hq1 : q = n + 1 := by omega
          subst hq1
          omega
      · by_cases hle : (s.en b (slN (elB s.bs b) (n + 1)) m).2 ≤ s.highs b m (n + 1)
        · exact ⟨i, by omega, by omega⟩
        · exact ⟨n + 1, by omega, by omega⟩
theorem out_is {s : Sn} (h : s.Fine) {b m : Nat} (hb : b < s.bs.length) (hm : m ≤ 200) : (∀ i, i < slW (elB s.bs b) → (s.out b m).1 ≤ (s.en b (slN (elB s.bs b) i) m).1 ∧ (s.en b (slN (elB s.bs b) i) m).1 ≤ (s.en b (slN (elB s.bs b) i) m).2 ∧ (s.en b (slN (elB s.bs b) i) m).2 ≤ (s.out b m).2) ∧ (∃ i, i < slW (elB s.bs b) ∧ (s.out b m).1 = (s.en b (slN (elB s.bs b) i) m).1) ∧ ∃ i, i < slW (elB s.bs b) ∧ (s.out b m).2 = (s.en b (slN (elB s.bs b) i) m).2 := by
  have hB := h.bkF hb
  have hw := slW_bd hB
  have h1 := lows_is h hb hm _ (Nat.le_refl _) (show 0 < slW (elB s.bs b) by omega)
  have h2 := highs_is h hb hm _ (Nat.le_refl _) (show 0 < slW (elB s.bs b) by omega)
  exact ⟨fun i hi => ⟨h1.1 i hi, lo_hi h hb (by have := slN_bd hB hi; omega) m, h2.1 i hi⟩, h1.2, h2.2⟩
/-- What is told of a block in a minute. -/
theorem jo_is {s : Sn} (h : s.Fine) {b m : Nat} (hb : b < s.bs.length) (hm : m ≤ 200) {j : Int} (hj : s.judge b m = j) : (j = 2 ↔ -s.near ≤ (s.out b m).1 ∧ (s.out b m).2 ≤ s.near) ∧ (j ≠ 0 → (s.out b m).1 ≤ s.near ∧ -s.near ≤ (s.out b m).2) ∧ s.set b m = (j == 2) := by
  have hw := slW_bd (h.bkF hb)
  obtain ⟨ho, ⟨i1, hi1, e1⟩, ⟨i2, hi2, e2⟩⟩ := out_is h hb hm
  have hn := h.nr
  refine ⟨?_, fun hj0 => ?_, by unfold Sn.set; rw [hj]⟩
  · have h1 : s.set b m = true ↔ j = 2 := by unfold Sn.set; rw [hj, beq_iff_eq]
    rw [← h1, set_iff h hb]
    constructor
    · intro hh
      have a1 := hh i1 hi1
      have a2 := hh i2 hi2
      unfold nrS at a1 a2
      omega
    · intro hh i hi
      have := ho i hi
      unfold nrS
      omega
  · have zero : (∀ i, i < slW (elB s.bs b) → s.jd b m i = 0) → j = 0 := fun hz => by rw [← hj, judge_all fun i hi => by rw [hz i hi, hz 0 (by omega)], hz 0 (by omega)]
    constructor
    · by_cases hc : (s.out b m).1 ≤ s.near
      · exact hc
      · refine absurd (zero fun i hi => ?_) hj0
        have := ho i hi
        unfold Sn.jd jdE
        rw [if_neg (by omega), if_pos (by omega)]
    · by_cases hc : -s.near ≤ (s.out b m).2
      · exact hc
      · refine absurd (zero fun i hi => ?_) hj0
        have := ho i hi
        unfold Sn.jd jdE
        rw [if_neg (by omega), if_pos (by omega)]
theorem exc_is {s : Sn} {b m : Nat} (hok : s.ok = true) (hb : b < s.bs.length) (hm : (m : Int) ≤ s.last) : excR s b m = .inr (s.out b m) := by
  unfold excR Sn.isB Sn.isM inI
  rw [hok, decide_eq_true (show (0 : Int) ≤ (b : Int) ∧ (b : Int) ≤ (s.bs.length : Int) - 1 by omega), decide_eq_true (show (0 : Int) ≤ (m : Int) ∧ (m : Int) ≤ s.last by omega)]
  rfl
theorem when_is {s : Sn} {b : Nat} (hok : s.ok = true) (hb : b < s.bs.length) : whenR s b = fmR (s.frm [b] s.N) := by
  unfold whenR Sn.isB inI
  rw [hok, decide_eq_true (show (0 : Int) ≤ (b : Int) ∧ (b : Int) ≤ (s.bs.length : Int) - 1 by omega)]
  rfl
/-- What the minutes told are. -/
structure RsOk (P : Nat → Bool) (n : Nat) (L : List Sp) : Prop where
  bd : ∀ j, j < L.length → 0 ≤ (elS L j).1 ∧ (elS L j).1 ≤ (elS L j).2 ∧ (elS L j).2 < (n : Int)
  gap : ∀ j, j + 1 < L.length → (elS L j).2 + 1 < (elS L (j + 1)).1
  cov : ∀ m : Nat, m < n → (P m = true ↔ ∃ j, j < L.length ∧ (elS L j).1 ≤ (m : Int) ∧ (m : Int) ≤ (elS L j).2)
theorem RsOk.far {P : Nat → Bool} {n : Nat} {L : List Sp} (H : RsOk P n L) {j : Nat} : ∀ d, j + 1 + d < L.length → (elS L j).2 + 1 < (elS L (j + 1 + d)).1
  | 0, h => H.gap j h
  | d + 1, h => by
    have h1 := H.far (j := j) d (by omega)
    have h2 := H.bd (j + 1 + d) (by omega)
    have h3 := H.gap (j + 1 + d) h
    rw [show j + 1 + (d + 1) = j + 1 + d + 1 by omega]
    omega
end Go.Proofs.Ytfjfkaaflghaiaa

namespace Go.Proofs.Ytfjfkaaflghaiaa
open Go.RowKit Go.Proofs.Try
attribute [local irreducible] Run wpK


def inB (x : Int) (s : Sp) : Bool := decide (s.1 ≤ x ∧ x ≤ s.2)
/-- From when on. -/
def WhIs (s : Sn) (b : Nat) (v e : Int) : Prop := (e = 4 ∧ v = 0 ∧ s.set b s.N = false) ∨ (e = 0 ∧ ∃ g : Nat, v = (g : Int) ∧ g ≤ s.N ∧ (∀ j, g ≤ j → j ≤ s.N → s.set b j = true) ∧ (0 < g → s.set b (g - 1) = false))
theorem wh_is {s : Sn} {b : Nat} {v e : Int} (hok : s.ok = true) (hb : b < s.bs.length) (e1 : inA (whenR s b) = v) (e2 : erA (whenR s b) = e) : WhIs s b v e := by
  rw [when_is hok hb] at e1 e2
  rcases frm_is (s := s) (Ns := [b]) (N := s.N) with ⟨h1, h2⟩ | ⟨g, hg, h1, h2, h3⟩
  · rw [h1] at e1 e2
    rw [sets_one] at h2
    exact .inl ⟨e2.symm, e1.symm, h2⟩
  · rw [h1] at e1 e2
    simp only [sets_one] at h2 h3
    exact .inr ⟨e2.symm, g, e1.symm, hg, h2, h3⟩
theorem WhIs.q {s : Sn} {b : Nat} {v e : Int} (h : WhIs s b v e) : (e = 0 ∧ 0 ≤ v) ∨ (e = 4 ∧ v = 0) := by
  rcases h with ⟨h1, h2, _⟩ | ⟨h1, g, h2, _⟩
  · exact .inr ⟨h1, h2⟩
  · exact .inl ⟨h1, by omega⟩
theorem WhIs.ok {s : Sn} {b : Nat} {v e : Int} (h : WhIs s b v e) : e = 0 ↔ s.set b s.N = true := by
  rcases h with ⟨h1, _, h3⟩ | ⟨h1, g, _, h3, h4, _⟩
  · rw [h3]; exact ⟨fun h => (by omega), fun h => (by cases h)⟩
  · exact ⟨fun _ => h4 _ h3 (Nat.le_refl _), fun _ => h1⟩
def mxW (s : Sn) : Nat → Int
  | 0 => 0
  | i + 1 => max (mxW s i) (inA (whenR s (i : Int)))
def smW (s : Sn) : Nat → Bool
  | 0 => true
  | i + 1 => smW s i && erA (whenR s (i : Int)) == 0
theorem smW_iff {s : Sn} : ∀ n, smW s n = true ↔ ∀ i : Nat, i < n → erA (whenR s (i : Int)) = 0
  | 0 => ⟨fun _ i hi => absurd hi (Nat.not_lt_zero _), fun _ => rfl⟩
  | n + 1 => by
    show (smW s n && erA (whenR s (n : Int)) == 0) = true ↔ _
    rw [Bool.and_eq_true, smW_iff n, beq_iff_eq]
    constructor
    · rintro ⟨h1, h2⟩ i hi
      by_cases e : i < n
      · exact h1 i e
      · rw [show i = n by omega]; exact h2
    · intro h
      exact ⟨fun i hi => h i (by omega), h n (by omega)⟩
theorem mxW_le {s : Sn} {c : Int} (hc : 0 ≤ c) : ∀ n, (∀ i : Nat, i < n → inA (whenR s (i : Int)) ≤ c) → mxW s n ≤ c
  | 0, _ => hc
  | n + 1, h => by
    have h1 := mxW_le hc n fun i hi => h i (by omega)
    have h2 := h n (by omega)
    show max (mxW s n) _ ≤ c
    omega
theorem mxW_ge {s : Sn} : ∀ n, 0 ≤ mxW s n ∧ ∀ i : Nat, i < n → inA (whenR s (i : Int)) ≤ mxW s n
  | 0 => ⟨Int.le_refl _, fun i hi => absurd hi (Nat.not_lt_zero _)⟩
  | n + 1 => by
    obtain ⟨h1, h2⟩ := mxW_ge (s := s) n
    refine ⟨by show 0 ≤ max (mxW s n) _; omega, fun i hi => ?_⟩
    show _ ≤ max (mxW s n) _
    by_cases e : i < n
    · have := h2 i e; omega
    · rw [show i = n by omega]; omega
theorem all_is {s : Sn} {v e : Int} (hok : s.ok = true) (e1 : inA (allR s) = v) (e2 : erA (allR s) = e) : (e == 0) = smW s s.bs.length ∧ (e = 0 → v = mxW s s.bs.length) ∧ ((e = 0 ∧ 0 ≤ v) ∨ (e = 4 ∧ v = 0)) := by
  unfold allR at e1 e2
  rw [hok] at e1 e2
  simp only [cond_true] at e1 e2
  have hW : ∀ b, b < s.bs.length → WhIs s b (inA (whenR s (b : Int))) (erA (whenR s (b : Int))) := fun b hb => wh_is hok hb rfl rfl
  rcases frm_is (s := s) (Ns := List.range s.bs.length) (N := s.N) with ⟨h1, h2⟩ | ⟨g, hg, h1, h2, h3⟩
  · rw [h1] at e1 e2
    have e2 : (4 : Int) = e := e2
    have e1 : (0 : Int) = v := e1
    subst e2
    refine ⟨?_, fun h => by omega, .inr ⟨rfl, e1.symm⟩⟩
    cases hs : smW s s.bs.length with
    | false => rfl
    | true =>
      rw [smW_iff] at hs
      unfold Sn.sets at h2
      rw [List.all_eq_false] at h2
      obtain ⟨b, hb, h3⟩ := h2
      have hb := List.mem_range.1 hb
      exact absurd ((hW b hb).ok.1 (hs b hb)) h3
  · rw [h1] at e1 e2
    have e2 : (0 : Int) = e := e2
    have e1 : (g : Int) = v := e1
    subst e2
    have hall : ∀ b, b < s.bs.length → ∀ j, g ≤ j → j ≤ s.N → s.set b j = true := fun b hb j h4 h5 => by
      have := h2 j h4 h5
      unfold Sn.sets at this
      exact List.all_eq_true.1 this b (List.mem_range.2 hb)
    have hs : smW s s.bs.length = true := (smW_iff _).2 fun b hb => (hW b hb).ok.2 (hall b hb _ hg (Nat.le_refl _))
    refine ⟨by rw [hs]; rfl, fun _ => ?_, .inl ⟨rfl, by omega⟩⟩
    rw [← e1]
    have hle : ∀ b : Nat, b < s.bs.length → inA (whenR s (b : Int)) ≤ (g : Int) := fun b hb => by
      rcases hW b hb with ⟨_, h5, _⟩ | ⟨_, q, h5, hq, h6, h7⟩
      · omega
      · by_cases hlt : q ≤ g
        · omega
        · have h8 := h7 (by omega)
          rw [hall b hb (q - 1) (by omega) (by omega)] at h8
          cases h8
    refine Int.le_antisymm ?_ (mxW_le (by omega) _ hle)
    by_cases h0 : 0 < g
    · have h4 := h3 h0
      unfold Sn.sets at h4
      rw [List.all_eq_false] at h4
      obtain ⟨b, hb, h5⟩ := h4
      have hb := List.mem_range.1 hb
      have h6 : (g : Int) ≤ inA (whenR s (b : Int)) := by
        rcases hW b hb with ⟨_, _, h7⟩ | ⟨_, q, h7, hq, h8, _⟩
        · rw [hall b hb _ hg (Nat.le_refl _)] at h7; cases h7
        · by_cases hlt : g ≤ q
          · omega
          · exact absurd (h8 (g - 1) (by omega) (by omega)) h5
      exact Int.le_trans h6 ((mxW_ge _).2 b hb)
    · have := (mxW_ge (s := s) s.bs.length).1
      omega
end Go.Proofs.Ytfjfkaaflghaiaa
