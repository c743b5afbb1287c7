/-
  FringeMore, its numbers: a reading more, a narrower one, a narrower Length; readings and colours turned round.
-/
import Derived.Test.YtoidnbpbeblokaaUa
import Derived.Test.YtoidnbpbeblokaaZq
import Derived.Test.YtoidnbpbeblokaaZm
namespace Go.Proofs.Ytoidnbpbeblokaa
open Go.RowKit Go.Shelf

theorem sorted_sub : ∀ (m l : List Int), l.Pairwise (· < ·) → m.Pairwise (· < ·) → (∀ x ∈ l, x ∈ m) → l.length ≤ m.length
  | [], l, _, _, h => by
    cases l with
    | nil => simp
    | cons a l => exact absurd (h a (by simp)) (by simp)
  | b :: m, [], _, _, _ => by simp
  | b :: m, a :: l, hl, hm, h => by
    rw [List.pairwise_cons] at hl hm
    by_cases e : a = b
    · subst e
      have := sorted_sub m l hl.2 hm.2 (fun x hx => by
        rcases List.mem_cons.1 (h x (by simp [hx])) with rfl | h'
        · exact absurd (hl.1 x hx) (by omega)
        · exact h')
      simp
      omega
    · have ha : a ∈ m := by
        rcases List.mem_cons.1 (h a (by simp)) with h' | h'
        · exact absurd h' e
        · exact h'
      have hba := hm.1 a ha
      have := sorted_sub m (a :: l) (List.pairwise_cons.2 hl) hm.2 (fun x hx => by
        rcases List.mem_cons.1 (h x hx) with rfl | h'
        · rcases List.mem_cons.1 hx with rfl | hx'
          · exact absurd rfl e
          · have := hl.1 x hx'; omega
        · exact h')
      simp at this ⊢
      omega
/-- The lengths of a fringe, as numbers. -/
def Fr.tl (F : Fr) : List Int := F.truths.map fun x => ((x.val : Nat) : Int)
theorem tl_sorted (F : Fr) : F.tl.Pairwise (· < ·) := by
  rw [Fr.tl, List.pairwise_map]
  exact (truths_sorted F).imp fun h => by omega
theorem tl_len (F : Fr) : F.tl.length = F.truths.length := by simp [Fr.tl]
theorem mem_tl {F : Fr} (h : F.ok = true) {n : Int} : n ∈ F.tl ↔ F.lo ≤ n ∧ n ≤ F.hi ∧ ∀ g ∈ F.gs, rightB g n = true := by
  obtain ⟨l1, l2, l3, l4⟩ := F.len_in h
  rw [Fr.tl, List.mem_map]
  constructor
  · rintro ⟨x, hx, rfl⟩
    have := (mem_truths h).1 hx
    exact ⟨this.1, this.2.1, fun g hg => List.all_eq_true.1 this.2.2 g hg⟩
  · rintro ⟨h1, h2, h3⟩
    obtain ⟨m, rfl⟩ := Int.eq_ofNat_of_zero_le (show 0 ≤ n by omega)
    exact ⟨⟨m, by omega⟩, (mem_truths h).2 ⟨h1, h2, List.all_eq_true.2 h3⟩, rfl⟩
/-- Q is as F, but for a narrower Length, narrower readings, and readings more. -/
structure Wider (F Q : Fr) : Prop where
  lo : F.lo ≤ Q.lo
  hi : Q.hi ≤ F.hi
  ws : Q.ws = F.ws
  len : F.gs.length ≤ Q.gs.length
  rd : ∀ i, i < F.gs.length → ∀ n : Int, rightB (Q.gs[i]?.getD (0, 0, 0)) n = true → rightB (F.gs[i]?.getD (0, 0, 0)) n = true
theorem Wider.sub {F Q : Fr} (h : Wider F Q) (hF : F.ok = true) (hQ : Q.ok = true) : ∀ n ∈ Q.tl, n ∈ F.tl := by
  intro n hn
  rw [mem_tl hQ] at hn
  rw [mem_tl hF]
  have := h.lo
  have := h.hi
  refine ⟨by omega, by omega, fun g hg => ?_⟩
  obtain ⟨i, hi, rfl⟩ := List.getElem_of_mem hg
  have := h.rd i hi n (by
    have hq : i < Q.gs.length := Nat.lt_of_lt_of_le hi h.len
    rw [List.getElem?_eq_getElem hq]
    exact hn.2.2 _ (List.getElem_mem hq))
  rwa [List.getElem?_eq_getElem hi] at this
theorem Wider.count {F Q : Fr} (h : Wider F Q) (hF : F.ok = true) (hQ : Q.ok = true) : Q.truths.length ≤ F.truths.length := by
  rw [← tl_len, ← tl_len]
  exact sorted_sub _ _ (tl_sorted Q) (tl_sorted F) (h.sub hF hQ)
/-- How many readings must be wrong. -/
def Fr.wn (F : Fr) : Nat := pop (setOf F.wrong)
theorem pop_later {a b : Nat} (h : NoLater a b) : pop a ≤ pop b := by rcases h with h | h <;> omega
theorem bits_mod : ∀ n : Nat, n < 7 → ∀ s : Nat, s < 64 → s % 2 ^ n < 2 ^ n ∧ pop (s % 2 ^ n) ≤ pop s ∧ ∀ i : Nat, i < 6 → i < n → hasB (s % 2 ^ n) i = hasB s i := by decide +kernel
theorem bits_top1a : ∀ n : Nat, n < 6 → ∀ s : Nat, s < 64 → s < 2 ^ n → s + 2 ^ n < 2 ^ (n + 1) ∧ pop (s + 2 ^ n) = pop s + 1 ∧ hasB (s + 2 ^ n) n = true := by decide +kernel
theorem bits_top1b : ∀ n : Nat, n < 6 → ∀ s : Nat, s < 64 → s < 2 ^ n → ∀ i : Nat, i < 6 → i < n → hasB (s + 2 ^ n) i = hasB s i := by decide +kernel
/-- The set turned round among the first n. -/
def rev (n s : Nat) : Nat := (List.range n).foldl (fun a i => if hasB s i then a + 2 ^ (n - 1 - i) else a) 0
theorem bits_reva : ∀ n : Nat, n < 7 → ∀ s : Nat, s < 64 → s < 2 ^ n → rev n s < 2 ^ n ∧ pop (rev n s) = pop s := by decide +kernel
theorem bits_revb : ∀ n : Nat, n < 7 → ∀ s : Nat, s < 64 → s < 2 ^ n → ∀ i : Nat, i < 6 → i < n → hasB (rev n s) i = hasB s (n - 1 - i) := by decide +kernel
theorem Wider.wrong {F Q : Fr} (h : Wider F Q) (hF : F.ok = true) (hQ : Q.ok = true) : F.wn ≤ Q.wn := by
  obtain ⟨w1, w2, _⟩ := wrong_facts Q hQ
  obtain ⟨_, _, f3⟩ := wrong_facts F hF
  have p64 := pow_le Q hQ
  have f6 := F.gl_in hF
  have q6 := Q.gl_in hQ
  obtain ⟨b1, b2, b3⟩ := bits_mod F.gs.length (by omega) (setOf Q.wrong) (by omega)
  refine Nat.le_trans (pop_later (f3 _ b1 ?_)) b2
  rw [agreeW_iff Q hQ] at w2
  rw [agreeW_iff F hF]
  obtain ⟨n, n1, n2, n3⟩ := w2
  have := h.lo
  have := h.hi
  refine ⟨n, by omega, by omega, fun g hg => ?_⟩
  obtain ⟨i, hi, hb, rfl⟩ := mem_wo.1 hg
  rw [b3 i (by omega) hi] at hb
  exact h.rd i hi n (n3 _ (mem_wo.2 ⟨i, Nat.lt_of_lt_of_le hi h.len, hb, rfl⟩))
theorem wrong_one {F Q : Fr} (hF : F.ok = true) (hQ : Q.ok = true) (h1 : Q.lo = F.lo) (h2 : Q.hi = F.hi) (g : Rg) (hg : Q.gs = F.gs ++ [g]) : Q.wn ≤ F.wn + 1 := by
  obtain ⟨w1, w2, _⟩ := wrong_facts F hF
  obtain ⟨_, _, f3⟩ := wrong_facts Q hQ
  have q6 := Q.gl_in hQ
  have hl : Q.gs.length = F.gs.length + 1 := by rw [hg]; simp
  have p64 := pow_le F hF
  obtain ⟨b1, b2, b3⟩ := bits_top1a F.gs.length (by omega) (setOf F.wrong) (by omega) w1
  have b4 := bits_top1b F.gs.length (by omega) (setOf F.wrong) (by omega) w1
  have := pop_later (f3 (setOf F.wrong + 2 ^ F.gs.length) (by rw [hl]; exact b1) (by
    rw [agreeW_iff F hF] at w2
    rw [agreeW_iff Q hQ]
    obtain ⟨n, n1, n2, n3⟩ := w2
    refine ⟨n, by omega, by omega, fun x hx => ?_⟩
    obtain ⟨i, hi, hb, rfl⟩ := mem_wo.1 hx
    rw [hl] at hi
    have hne : i ≠ F.gs.length := fun e => by subst e; rw [b3] at hb; cases hb
    have hi2 : i < F.gs.length := by omega
    rw [b4 i (by omega) hi2] at hb
    rw [hg, List.getElem?_append_left hi2]
    exact n3 _ (mem_wo.2 ⟨i, hi2, hb, rfl⟩)))
  rw [b2] at this
  exact this
theorem rev_le {F T : Fr} (hF : F.ok = true) (hT : T.ok = true) (h1 : T.lo = F.lo) (h2 : T.hi = F.hi) (hg : T.gs = F.gs.reverse) : T.wn ≤ F.wn := by
  obtain ⟨w1, w2, _⟩ := wrong_facts F hF
  obtain ⟨_, _, f3⟩ := wrong_facts T hT
  have q6 := F.gl_in hF
  have hl : T.gs.length = F.gs.length := by rw [hg]; simp
  have p64 := pow_le F hF
  obtain ⟨b1, b2⟩ := bits_reva F.gs.length (by omega) (setOf F.wrong) (by omega) w1
  have b3 := bits_revb F.gs.length (by omega) (setOf F.wrong) (by omega) w1
  have := pop_later (f3 (rev F.gs.length (setOf F.wrong)) (by rw [hl]; exact b1) (by
    rw [agreeW_iff F hF] at w2
    rw [agreeW_iff T hT]
    obtain ⟨n, n1, n2, n3⟩ := w2
    refine ⟨n, by omega, by omega, fun x hx => ?_⟩
    obtain ⟨i, hi, hb, rfl⟩ := mem_wo.1 hx
    rw [hl] at hi
    rw [b3 i (by omega) hi] at hb
    rw [hg, List.getElem?_reverse hi]
    exact n3 _ (mem_wo.2 ⟨F.gs.length - 1 - i, by omega, hb, rfl⟩)))
  rw [b2] at this
  exact this
theorem rev_wn {F T : Fr} (hF : F.ok = true) (hT : T.ok = true) (h1 : T.lo = F.lo) (h2 : T.hi = F.hi) (hg : T.gs = F.gs.reverse) : T.wn = F.wn :=
  Nat.le_antisymm (rev_le hF hT h1 h2 hg) (rev_le hT hF h1.symm h2.symm (by rw [hg, List.reverse_reverse]))
theorem rev_truths {F T : Fr} (h1 : T.lo = F.lo) (h2 : T.hi = F.hi) (hg : T.gs = F.gs.reverse) : T.truths = F.truths := by
  have h : ∀ n : Int, T.gs.all (rightB · n) = F.gs.all (rightB · n) := fun n => by rw [hg, List.all_reverse]
  simp only [Fr.truths, lens, lensTo, h, h1, h2]
theorem psOf_bit {x : Int} (ns : List Int) (p : Nat) : (psOf x ns).testBit p = true ↔ ∃ n ∈ ns, (20 * (n % x) / x).toNat = p := by
  induction ns using snoc_ind with
  | h0 => simp [psOf]
  | h1 l n ih =>
    rw [psOf_snoc, Nat.testBit_or, Bool.or_eq_true, ih, Nat.testBit_two_pow, decide_eq_true_eq]
    constructor
    · rintro (⟨m, h1, h2⟩ | h)
      · exact ⟨m, by simp [h1], h2⟩
      · exact ⟨n, by simp, h⟩
    · rintro ⟨m, h1, h2⟩
      rw [List.mem_append, List.mem_singleton] at h1
      rcases h1 with h1 | rfl
      · exact .inl ⟨m, h1, h2⟩
      · exact .inr h2
theorem Wider.parts {F Q : Fr} (h : Wider F Q) (hF : F.ok = true) (hQ : Q.ok = true) (x : Int) : ∀ p, (psOf x Q.tl).testBit p = true → (psOf x F.tl).testBit p = true := fun p hp => by
  rw [psOf_bit] at hp ⊢
  obtain ⟨n, h1, h2⟩ := hp
  exact ⟨n, h.sub hF hQ n h1, h2⟩
theorem rev_period (ws : List Int) : period ws.reverse = period ws := by
  apply Nat.dvd_antisymm
  · refine period_least fun k hk => ?_
    rw [List.length_reverse] at hk
    rw [List.getElem?_reverse hk]
    exact period_dvd (by omega)
  · refine period_least fun k hk => ?_
    have := period_dvd (ws := ws.reverse) (k := ws.length - 1 - k) (by rw [List.length_reverse]; omega)
    rw [List.getElem?_reverse (by omega), show ws.length - 1 - (ws.length - 1 - k) = k by omega] at this
    exact this
end Go.Proofs.Ytoidnbpbeblokaa
