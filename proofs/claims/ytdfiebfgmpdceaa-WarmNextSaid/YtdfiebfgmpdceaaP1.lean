/-
  WARM: the numbers of WarmPairs: the pairs gone through so far, how many there are, their lengths, coefficients and warmths.
-/
import Derived.Test.YtdfiebfgmpdceaaT1
namespace Go.Proofs.Ytdfiebfgmpdceaa
open Go.RowKit

/-- Does a pair come before this one? -/
def bef (a b : Int) (p : Pr) : Bool := decide (p.1.1 < a ∨ (p.1.1 = a ∧ p.1.2 < b))
theorem countP_one {l : List Pr} {P Q : Pr → Bool} {p : Pr} (hn : l.Nodup) (hp : p ∈ l) (h1 : ∀ q, q ≠ p → Q q = P q) (h2 : Q p = true) (h3 : P p = false) : l.countP Q = l.countP P + 1 := by
  induction l with
  | nil => cases hp
  | cons x l ih =>
    obtain ⟨n1, n2⟩ := List.nodup_cons.1 hn
    by_cases e : x = p
    · subst e
      have hc : l.countP Q = l.countP P := List.countP_congr (fun q hq => by rw [h1 q (fun e => n1 (e ▸ hq))])
      rw [List.countP_cons, List.countP_cons, hc, h2, h3]
      simp
    · have hp' : p ∈ l := (List.mem_cons.1 hp).resolve_left (fun e' => e e'.symm)
      rw [List.countP_cons, List.countP_cons, ih n2 hp', h1 x e]
      omega
theorem bef_next {a b : Int} {p : Pr} : bef a (b + 1) p = true ↔ bef a b p = true ∨ p.1 = (a, b) := by
  unfold bef
  rw [decide_eq_true_eq, decide_eq_true_eq, Prod.ext_iff]
  dsimp only
  omega
/-- What lies in the lists once all pairs before this one are gone through. -/
structure PA (B : Wm) (r : Wr) (a b : Int) (m : Nat) (L1 L2 L3 : List Int) : Prop where
  cnt : m = B.truths.countP (bef a b)
  l1 : ∀ x, x ∈ L1 ↔ ∃ p ∈ B.truths, bef a b p = true ∧ p.1.1 = x
  l2 : ∀ x, x ∈ L2 ↔ ∃ p ∈ B.truths, bef a b p = true ∧ p.1.2 = x
  l3 : B.rs ≠ [] → ∀ x, x ∈ L3 ↔ ∃ p ∈ B.truths, bef a b p = true ∧ x ∈ warms B.mark p.1 r
  n1 : L1.length = m
  n2 : L2.length = m
  n3 : L3.length ≤ 5 * m
theorem truths_nodup (B : Wm) : B.truths.Nodup := List.Nodup.sublist List.filter_sublist B.all_nodup
theorem PA.le {B : Wm} (hok : B.ok = true) {r : Wr} {a b : Int} {m : Nat} {L1 L2 L3 : List Int} (h : PA B r a b m L1 L2 L3) : m ≤ 100 := by
  rw [h.cnt]
  exact Nat.le_trans List.countP_le_length (Nat.le_trans (List.length_filter_le _ _) (Wm.all_len (Wm.ok_lim hok)))
theorem PA.start {B : Wm} (hok : B.ok = true) (r : Wr) : PA B r B.llo B.clo 0 [] [] [] := by
  have hno : ∀ p ∈ B.truths, bef B.llo B.clo p = false := fun p hp => by
    have := truth_in hok hp
    unfold bef
    rw [decide_eq_false_iff_not]
    omega
  refine ⟨?_, fun x => ?_, fun x => ?_, fun _ x => ?_, rfl, rfl, by simp⟩
  · rw [eq_comm, List.countP_eq_zero]
    exact fun p hp => by rw [hno p hp]; simp
  all_goals
    constructor
    · intro h; cases h
    · rintro ⟨p, hp, h, _⟩; rw [hno p hp] at h; cases h
theorem PA.no {B : Wm} {r : Wr} {a b : Int} {m : Nat} {L1 L2 L3 : List Int} (h : PA B r a b m L1 L2 L3) (hno : ∀ p ∈ B.truths, p.1 ≠ (a, b)) : PA B r a (b + 1) m L1 L2 L3 := by
  have he : ∀ p ∈ B.truths, (bef a (b + 1) p = true ↔ bef a b p = true) := fun p hp => by
    rw [bef_next]
    exact ⟨fun h => h.resolve_right (hno p hp), .inl⟩
  have hex : ∀ Q : Pr → Prop, (∃ p ∈ B.truths, bef a (b + 1) p = true ∧ Q p) ↔ ∃ p ∈ B.truths, bef a b p = true ∧ Q p := fun Q =>
    ⟨fun ⟨p, hp, h1, h2⟩ => ⟨p, hp, (he p hp).1 h1, h2⟩, fun ⟨p, hp, h1, h2⟩ => ⟨p, hp, (he p hp).2 h1, h2⟩⟩
  refine ⟨?_, fun x => (h.l1 x).trans (hex _).symm, fun x => (h.l2 x).trans (hex _).symm, fun hr x => (h.l3 hr x).trans (hex _).symm, h.n1, h.n2, h.n3⟩
  rw [h.cnt]
  exact (List.countP_congr (fun p hp => (he p hp))).symm
theorem PA.yes {B : Wm} {r : Wr} {a b : Int} {m : Nat} {L1 L2 L3 L3' : List Int} (h : PA B r a b m L1 L2 L3) {p : Pr} (hp : p ∈ B.truths) (he : p.1 = (a, b)) (h3 : B.rs ≠ [] → ∀ x, x ∈ L3' ↔ x ∈ L3 ∨ x ∈ warms B.mark p.1 r) (hn : L3'.length ≤ L3.length + 5) : PA B r a (b + 1) (m + 1) (L1 ++ [a]) (L2 ++ [b]) L3' := by
  have hex : ∀ Q : Pr → Prop, (∃ q ∈ B.truths, bef a (b + 1) q = true ∧ Q q) ↔ (∃ q ∈ B.truths, bef a b q = true ∧ Q q) ∨ Q p := fun Q => by
    constructor
    · rintro ⟨q, hq, h1, h2⟩
      rcases bef_next.1 h1 with h1 | h1
      · exact .inl ⟨q, hq, h1, h2⟩
      · exact .inr ((Subtype.ext (h1.trans he.symm) : q = p) ▸ h2)
    · rintro (⟨q, hq, h1, h2⟩ | h2)
      · exact ⟨q, hq, bef_next.2 (.inl h1), h2⟩
      · exact ⟨p, hp, bef_next.2 (.inr he), h2⟩
  have e1 : p.1.1 = a := by rw [he]
  have e2 : p.1.2 = b := by rw [he]
  refine ⟨?_, fun x => ?_, fun x => ?_, fun hr x => ?_, by simp [h.n1], by simp [h.n2], by have := h.n3; omega⟩
  · rw [h.cnt, countP_one (truths_nodup B) hp (fun q hq => ?_) (bef_next.2 (.inr he)) ?_]
    · unfold bef
      rw [decide_eq_false_iff_not]
      omega
    · rw [Bool.eq_iff_iff, bef_next]
      exact ⟨fun h => h.resolve_right (fun h => hq (Subtype.ext (h.trans he.symm))), .inl⟩
  · rw [List.mem_append, List.mem_singleton, h.l1, hex, e1]
    exact or_congr_right eq_comm
  · rw [List.mem_append, List.mem_singleton, h.l2, hex, e2]
    exact or_congr_right eq_comm
  · rw [h3 hr, h.l3 hr, hex]
theorem PA.row {B : Wm} (hok : B.ok = true) {r : Wr} {a b : Int} {m : Nat} {L1 L2 L3 : List Int} (h : PA B r a b m L1 L2 L3) (hb : B.chi < b) : PA B r (a + 1) B.clo m L1 L2 L3 := by
  have he : ∀ p ∈ B.truths, (bef (a + 1) B.clo p = true ↔ bef a b p = true) := fun p hp => by
    have := truth_in hok hp
    unfold bef
    rw [decide_eq_true_eq, decide_eq_true_eq]
    omega
  have hex : ∀ Q : Pr → Prop, (∃ p ∈ B.truths, bef (a + 1) B.clo p = true ∧ Q p) ↔ ∃ p ∈ B.truths, bef a b p = true ∧ Q p := fun Q =>
    ⟨fun ⟨p, hp, h1, h2⟩ => ⟨p, hp, (he p hp).1 h1, h2⟩, fun ⟨p, hp, h1, h2⟩ => ⟨p, hp, (he p hp).2 h1, h2⟩⟩
  refine ⟨?_, fun x => (h.l1 x).trans (hex _).symm, fun x => (h.l2 x).trans (hex _).symm, fun hr x => (h.l3 hr x).trans (hex _).symm, h.n1, h.n2, h.n3⟩
  rw [h.cnt]
  exact (List.countP_congr (fun p hp => (he p hp))).symm
/-- All pairs are gone through. -/
structure PZ (B : Wm) (r : Wr) (m : Nat) (L1 L2 L3 : List Int) : Prop where
  cnt : m = B.truths.length
  l1 : ∀ x, x ∈ L1 ↔ x ∈ B.truths.map (fun p => p.1.1)
  l2 : ∀ x, x ∈ L2 ↔ x ∈ B.truths.map (fun p => p.1.2)
  l3 : B.rs ≠ [] → ∀ x, x ∈ L3 ↔ x ∈ B.truths.flatMap (fun p => warms B.mark p.1 r)
  n1 : L1.length = m
  n2 : L2.length = m
  n3 : L3.length ≤ 5 * m
theorem PA.stop {B : Wm} (hok : B.ok = true) {r : Wr} {a b : Int} {m : Nat} {L1 L2 L3 : List Int} (h : PA B r a b m L1 L2 L3) (ha : B.lhi < a) : PZ B r m L1 L2 L3 := by
  have he : ∀ p ∈ B.truths, bef a b p = true := fun p hp => by
    have := truth_in hok hp
    unfold bef
    rw [decide_eq_true_eq]
    omega
  refine ⟨?_, fun x => ?_, fun x => ?_, fun hr x => ?_, h.n1, h.n2, h.n3⟩
  · rw [h.cnt, List.countP_eq_length]
    exact he
  · rw [h.l1, List.mem_map]
    exact exists_congr fun p => ⟨fun ⟨h1, _, h2⟩ => ⟨h1, h2⟩, fun ⟨h1, h2⟩ => ⟨h1, he p h1, h2⟩⟩
  · rw [h.l2, List.mem_map]
    exact exists_congr fun p => ⟨fun ⟨h1, _, h2⟩ => ⟨h1, h2⟩, fun ⟨h1, h2⟩ => ⟨h1, he p h1, h2⟩⟩
  · rw [h.l3 hr, List.mem_flatMap]
    exact exists_congr fun p => ⟨fun ⟨h1, _, h2⟩ => ⟨h1, h2⟩, fun ⟨h1, h2⟩ => ⟨h1, he p h1, h2⟩⟩
/-- The ends of the first k: nothing, or the least and the greatest. -/
def EndS (L : List Int) (k : Nat) (u v : Int) : Prop := (k = 0 ∧ u = 0 ∧ v = 0) ∨ (0 < k ∧ Ends (fun x => x ∈ L.take k) u v)
theorem EndS.first {L : List Int} {x : Int} (hx : L[0]? = some x) : EndS L 1 x x := by
  refine .inr ⟨by omega, ?_⟩
  cases L with
  | nil => cases hx
  | cons y L =>
    cases hx
    exact ⟨by simp, by simp, fun z hz => by simp at hz; omega⟩
theorem EndS.next {L : List Int} {k : Nat} {u v x : Int} (h : EndS L k u v) (hk : 0 < k) (hx : L[k]? = some x) : EndS L (k + 1) (min u x) (max v x) := by
  rcases h with ⟨e, _⟩ | ⟨_, h1, h2, h3⟩
  · omega
  · obtain ⟨hl, e⟩ := List.getElem?_eq_some_iff.1 hx
    have ht : L.take (k + 1) = L.take k ++ [x] := by rw [List.take_succ_eq_append_getElem hl, e]
    have huv := h3 v h2
    refine .inr ⟨by omega, ?_, ?_, fun z hz => ?_⟩
    · dsimp only
      rw [ht, List.mem_append, List.mem_singleton]
      rcases Int.le_total u x with h | h
      · exact .inl (by rw [show min u x = u by omega]; exact h1)
      · exact .inr (by omega)
    · dsimp only
      rw [ht, List.mem_append, List.mem_singleton]
      rcases Int.le_total v x with h | h
      · exact .inr (by omega)
      · exact .inl (by rw [show max v x = v by omega]; exact h2)
    · dsimp only at hz
      rw [ht, List.mem_append, List.mem_singleton] at hz
      rcases hz with hz | hz
      · have := h3 z hz; omega
      · omega
theorem EndS.all {L M : List Int} {u v : Int} (h : EndS L L.length u v) (hne : M ≠ []) (he : ∀ x, x ∈ L ↔ x ∈ M) (hb : ∀ x ∈ M, -30000 ≤ x ∧ x ≤ 30000) : u = loI M ∧ v = hiI M := by
  rcases h with ⟨h0, _⟩ | ⟨_, h⟩
  · obtain ⟨y, hy⟩ := List.exists_mem_of_ne_nil _ hne
    rw [List.length_eq_zero_iff] at h0
    have := (he y).2 hy
    rw [h0] at this
    cases this
  · rw [List.take_length] at h
    exact Ends.same (P := fun x => x ∈ L) h ⟨(he _).2 (ends_list hne hb).1, (he _).2 (ends_list hne hb).2.1, fun x hx => (ends_list hne hb).2.2 x ((he x).1 hx)⟩
end Go.Proofs.Ytdfiebfgmpdceaa
