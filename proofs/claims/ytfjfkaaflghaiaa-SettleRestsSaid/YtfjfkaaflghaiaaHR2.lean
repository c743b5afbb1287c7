/-
  LAW: SettleRests: numbers: from when on, and all.
-/
import Derived.Test.YtfjfkaaflghaiaaHR1
namespace Go.Proofs.Ytfjfkaaflghaiaa
open Go.RowKit Go.Proofs.Try
attribute [local irreducible] Run wpK


def inB (x : Int) (s : Sp) : Bool := decide (s.1 ≤ x ∧ x ≤ s.2)
def inAny (L : List Sp) (x : Int) : Nat → Bool
  | 0 => false
  | j + 1 => inAny L x j || inB x (elS L j)
theorem inAny_iff {L : List Sp} {x : Int} : ∀ n, inAny L x n = true ↔ ∃ j, j < n ∧ (elS L j).1 ≤ x ∧ x ≤ (elS L j).2
  | 0 => ⟨fun h => (by cases h), fun ⟨j, hj, _⟩ => absurd hj (Nat.not_lt_zero _)⟩
  | n + 1 => by
    show (inAny L x n || inB x (elS L n)) = true ↔ _
    rw [Bool.or_eq_true, inAny_iff n]
    constructor
    · rintro (⟨j, hj, h⟩ | h)
      · exact ⟨j, by omega, h⟩
      · exact ⟨n, Nat.lt_succ_self _, of_decide_eq_true h⟩
    · rintro ⟨j, hj, h⟩
      by_cases e : j < n
      · exact .inl ⟨j, e, h⟩
      · have e2 : j = n := by omega
        subst e2
        exact .inr (decide_eq_true h)
theorem any_is {P : Nat → Bool} {n : Nat} {L : List Sp} (H : RsOk P n L) {m : Nat} (hm : m < n) : inAny L (m : Int) L.length = P m := by
  have h1 := inAny_iff (L := L) (x := (m : Int)) L.length
  have h2 := H.cov m hm
  cases hp : P m with
  | true => exact h1.2 (h2.1 hp)
  | false =>
    cases ha : inAny L (m : Int) L.length with
    | false => rfl
    | true => rw [h2.2 (h1.1 ha)] at hp; cases hp
/-- From when on. -/
def WhIs (s : Sn) (b : Nat) (v e : Int) : Prop := (e = 4 ∧ v = 0 ∧ s.set b s.N = false) ∨ (e = 0 ∧ ∃ g : Nat, v = (g : Int) ∧ g ≤ s.N ∧ (∀ j, g ≤ j → j ≤ s.N → s.set b j = true) ∧ (0 < g → s.set b (g - 1) = false))
theorem wh_is {s : Sn} {b : Nat} {v e : Int} (hok : s.ok = true) (hb : b < s.bs.length) (e1 : inA (whenR s b) = v) (e2 : erA (whenR s b) = e) : WhIs s b v e := by
  rw [when_is hok hb] at e1 e2
  rcases frm_is (s := s) (Ns := [b]) (N := s.N) with ⟨h1, h2⟩ | ⟨g, hg, h1, h2, h3⟩
  · rw [h1] at e1 e2
    rw [sets_one] at h2
    exact .inl ⟨e2.symm, e1.symm, h2⟩
  · rw [h1] at e1 e2
    simp only [sets_one] at h2 h3
    exact .inr ⟨e2.symm, g, e1.symm, hg, h2, h3⟩
theorem WhIs.q {s : Sn} {b : Nat} {v e : Int} (h : WhIs s b v e) : (e = 0 ∧ 0 ≤ v) ∨ (e = 4 ∧ v = 0) := by
  rcases h with ⟨h1, h2, _⟩ | ⟨h1, g, h2, _⟩
  · exact .inr ⟨h1, h2⟩
  · exact .inl ⟨h1, by omega⟩
theorem WhIs.ok {s : Sn} {b : Nat} {v e : Int} (h : WhIs s b v e) : e = 0 ↔ s.set b s.N = true := by
  rcases h with ⟨h1, _, h3⟩ | ⟨h1, g, _, h3, h4, _⟩
  · rw [h3]; exact ⟨fun h => (by omega), fun h => (by cases h)⟩
  · exact ⟨fun _ => h4 _ h3 (Nat.le_refl _), fun _ => h1⟩
theorem lastR_is {s : Sn} {b : Nat} {v e : Int} (h : WhIs s b v e) {L : List Sp} (H : RsOk (fun m => s.set b m) (s.N + 1) L) {t : Nat} (ht : L.length = t + 1) : (e = 0 ↔ (elS L t).2 = (s.N : Int)) ∧ (e = 0 → (elS L t).1 = v) := by
  have htl : t < L.length := by omega
  have hbt := H.bd t htl
  have far : ∀ j, j < t → (elS L j).2 + 1 < (elS L t).1 := fun j hj => by
    have := H.far (j := j) (t - (j + 1)) (by omega)
    rwa [show j + 1 + (t - (j + 1)) = t by omega] at this
  have hN : s.set b s.N = true ↔ (elS L t).2 = (s.N : Int) := by
    rw [H.cov s.N (by omega)]
    constructor
    · rintro ⟨j, hj, h1, h2⟩
      by_cases e2 : j = t
      · subst e2; omega
      · have := far j (by omega)
        omega
    · intro h2
      exact ⟨t, htl, by omega, by omega⟩
  refine ⟨h.ok.trans hN, fun he => ?_⟩
  rcases h with ⟨h1, _⟩ | ⟨_, g, hv, hg, h3, h4⟩
  · omega
  · have hl2 := hN.1 (h3 _ hg (Nat.le_refl _))
    obtain ⟨q, hq⟩ : ∃ q : Nat, (elS L t).1 = (q : Int) := ⟨(elS L t).1.toNat, by omega⟩
    rw [hv, hq]
    rcases Nat.lt_trichotomy g q with hlt | heq | hgt
    · exfalso
      have h5 := (H.cov (q - 1) (by omega)).1 (h3 (q - 1) (by omega) (by omega))
      obtain ⟨j, hj, h6, h7⟩ := h5
      by_cases e2 : j = t
      · subst e2; omega
      · have := far j (by omega)
        omega
    · omega
    · exfalso
      have h5 := h4 (by omega)
      rw [(H.cov (g - 1) (by omega)).2 ⟨t, htl, by omega, by omega⟩] at h5
      cases h5
theorem nil_is {s : Sn} {b : Nat} {v e : Int} (h : WhIs s b v e) {L : List Sp} (H : RsOk (fun m => s.set b m) (s.N + 1) L) (hL : L = []) : e = 4 := by
  subst hL
  rcases h with ⟨h1, _⟩ | ⟨_, g, hv, hg, h3, h4⟩
  · exact h1
  · obtain ⟨j, hj, _⟩ := (H.cov s.N (by omega)).1 (h3 _ hg (Nat.le_refl _))
    exact absurd hj (Nat.not_lt_zero _)
def mxW (s : Sn) : Nat → Int
  | 0 => 0
  | i + 1 => max (mxW s i) (inA (whenR s (i : Int)))
def smW (s : Sn) : Nat → Bool
  | 0 => true
  | i + 1 => smW s i && erA (whenR s (i : Int)) == 0
theorem smW_iff {s : Sn} : ∀ n, smW s n = true ↔ ∀ i : Nat, i < n → erA (whenR s (i : Int)) = 0
  | 0 => ⟨fun _ i hi => absurd hi (Nat.not_lt_zero _), fun _ => rfl⟩
  | n + 1 => by
    show (smW s n && erA (whenR s (n : Int)) == 0) = true ↔ _
    rw [Bool.and_eq_true, smW_iff n, beq_iff_eq]
    constructor
    · rintro ⟨h1, h2⟩ i hi
      by_cases e : i < n
      · exact h1 i e
      · rw [show i = n by omega]; exact h2
    · intro h
      exact ⟨fun i hi => h i (by omega), h n (by omega)⟩
theorem mxW_le {s : Sn} {c : Int} (hc : 0 ≤ c) : ∀ n, (∀ i : Nat, i < n → inA (whenR s (i : Int)) ≤ c) → mxW s n ≤ c
  | 0, _ => hc
  | n + 1, h => by
    have h1 := mxW_le hc n fun i hi => h i (by omega)
    have h2 := h n (by omega)
    show max (mxW s n) _ ≤ c
    omega
theorem mxW_ge {s : Sn} : ∀ n, 0 ≤ mxW s n ∧ ∀ i : Nat, i < n → inA (whenR s (i : Int)) ≤ mxW s n
  | 0 => ⟨Int.le_refl _, fun i hi => absurd hi (Nat.not_lt_zero _)⟩
  | n + 1 => by
    obtain ⟨h1, h2⟩ := mxW_ge (s := s) n
    refine ⟨by show 0 ≤ max (mxW s n) _; omega, fun i hi => ?_⟩
    show _ ≤ max (mxW s n) _
    by_cases e : i < n
    · have := h2 i e; omega
    · rw [show i = n by omega]; omega
theorem wh_bd {s : Sn} (hok : s.ok = true) {i : Nat} (hi : i < s.bs.length) : 0 ≤ inA (whenR s (i : Int)) ∧ inA (whenR s (i : Int)) ≤ 60 := by
  have hF := Sn.fine hok
  have h1 := hF.lastN
  have h2 := hF.l
  rcases wh_is hok hi rfl rfl with ⟨_, h, _⟩ | ⟨_, g, h, hg, _⟩ <;> omega
theorem mxW_bd {s : Sn} (hok : s.ok = true) {i : Nat} (hi : i ≤ s.bs.length) : 0 ≤ mxW s i ∧ mxW s i ≤ 60 :=
  ⟨(mxW_ge i).1, mxW_le (by omega) i fun j hj => (wh_bd hok (by omega)).2⟩
theorem all_is {s : Sn} {v e : Int} (hok : s.ok = true) (e1 : inA (allR s) = v) (e2 : erA (allR s) = e) : (e == 0) = smW s s.bs.length ∧ (e = 0 → v = mxW s s.bs.length) ∧ ((e = 0 ∧ 0 ≤ v) ∨ (e = 4 ∧ v = 0)) := by
  unfold allR at e1 e2
  rw [hok] at e1 e2
  simp only [cond_true] at e1 e2
  have hW : ∀ b, b < s.bs.length → WhIs s b (inA (whenR s (b : Int))) (erA (whenR s (b : Int))) := fun b hb => wh_is hok hb rfl rfl
  rcases frm_is (s := s) (Ns := List.range s.bs.length) (N := s.N) with ⟨h1, h2⟩ | ⟨g, hg, h1, h2, h3⟩
  · rw [h1] at e1 e2
    have e2 : (4 : Int) = e := e2
    have e1 : (0 : Int) = v := e1
    subst e2
    refine ⟨?_, fun h => by omega, .inr ⟨rfl, e1.symm⟩⟩
    cases hs : smW s s.bs.length with
    | false => rfl
    | true =>
      rw [smW_iff] at hs
      unfold Sn.sets at h2
      rw [List.all_eq_false] at h2
      obtain ⟨b, hb, h3⟩ := h2
      have hb := List.mem_range.1 hb
      exact absurd ((hW b hb).ok.1 (hs b hb)) h3
  · rw [h1] at e1 e2
    have e2 : (0 : Int) = e := e2
    have e1 : (g : Int) = v := e1
    subst e2
    have hall : ∀ b, b < s.bs.length → ∀ j, g ≤ j → j ≤ s.N → s.set b j = true := fun b hb j h4 h5 => by
      have := h2 j h4 h5
      unfold Sn.sets at this
      exact List.all_eq_true.1 this b (List.mem_range.2 hb)
    have hs : smW s s.bs.length = true := (smW_iff _).2 fun b hb => (hW b hb).ok.2 (hall b hb _ hg (Nat.le_refl _))
    refine ⟨by rw [hs]; rfl, fun _ => ?_, .inl ⟨rfl, by omega⟩⟩
    rw [← e1]
    have hle : ∀ b : Nat, b < s.bs.length → inA (whenR s (b : Int)) ≤ (g : Int) := fun b hb => by
      rcases hW b hb with ⟨_, h5, _⟩ | ⟨_, q, h5, hq, h6, h7⟩
      · omega
      · by_cases hlt : q ≤ g
        · omega
        · have h8 := h7 (by omega)
          rw [hall b hb (q - 1) (by omega) (by omega)] at h8
          cases h8
    refine Int.le_antisymm ?_ (mxW_le (by omega) _ hle)
    by_cases h0 : 0 < g
    · have h4 := h3 h0
      unfold Sn.sets at h4
      rw [List.all_eq_false] at h4
      obtain ⟨b, hb, h5⟩ := h4
      have hb := List.mem_range.1 hb
      have h6 : (g : Int) ≤ inA (whenR s (b : Int)) := by
        rcases hW b hb with ⟨_, _, h7⟩ | ⟨_, q, h7, hq, h8, _⟩
        · rw [hall b hb _ hg (Nat.le_refl _)] at h7; cases h7
        · by_cases hlt : g ≤ q
          · omega
          · exact absurd (h8 (g - 1) (by omega) (by omega)) h5
      exact Int.le_trans h6 ((mxW_ge _).2 b hb)
    · have := (mxW_ge (s := s) s.bs.length).1
      omega
end Go.Proofs.Ytfjfkaaflghaiaa
