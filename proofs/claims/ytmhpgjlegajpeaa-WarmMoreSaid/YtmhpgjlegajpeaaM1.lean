/-
  WARM: the numbers of WarmMore: with fewer truths nothing is told less exactly; the order of readings makes no difference.
-/
import Derived.Test.YtmhpgjlegajpeaaT1
namespace Go.Proofs.Ytmhpgjlegajpeaa
open Go.RowKit

/-- A block with the same pairs, each truth of which is one of another block. -/
structure Less (A B : Wm) : Prop where
  m : A.mark = B.mark
  all : A.all = B.all
  ok : ∀ p, okAll A.mark A.rs p = true → okAll B.mark B.rs p = true
theorem Less.sub {A B : Wm} (h : Less A B) {p : Pr} (hp : p ∈ A.truths) : p ∈ B.truths := by
  obtain ⟨h1, h2⟩ := List.mem_filter.1 hp
  exact List.mem_filter.2 ⟨by rw [← h.all]; exact h1, h.ok p h2⟩
theorem Less.len {A B : Wm} (h : Less A B) : A.truths.length ≤ B.truths.length := by
  unfold Wm.truths Wm.leftBy
  rw [← List.countP_eq_length_filter, ← List.countP_eq_length_filter, h.all]
  exact List.countP_mono_left (fun p _ hp => h.ok p hp)
theorem Less.none {A B : Wm} (h : Less A B) (hB : B.truths.isEmpty = true) : A.truths.isEmpty = true := by
  cases hA : A.truths with
  | nil => rfl
  | cons p l =>
    have := h.sub (p := p) (by rw [hA]; exact List.mem_cons_self)
    rw [List.isEmpty_iff.1 hB] at this
    cases this
/-- The ends of a part lie within those of the whole. -/
theorem ends_part {L M : List Int} (hL : L ≠ []) (hs : ∀ x ∈ L, x ∈ M) (hb : ∀ x ∈ M, -30000 ≤ x ∧ x ≤ 30000) : loI M ≤ loI L ∧ hiI L ≤ hiI M := by
  have hM : M ≠ [] := fun e => by
    obtain ⟨x, hx⟩ := List.exists_mem_of_ne_nil _ hL
    have := hs x hx
    rw [e] at this
    cases this
  have h1 := ends_list hL (fun x hx => hb x (hs x hx))
  have h2 := ends_list hM hb
  exact ⟨(h2.2.2 _ (hs _ h1.1)).1, (h2.2.2 _ (hs _ h1.2.1)).2⟩
theorem len_bd (B : Wm) : ∀ x ∈ B.truths.map (fun p => p.1.1), -30000 ≤ x ∧ x ≤ 30000 := fun x hx => by
  obtain ⟨p, _, rfl⟩ := List.mem_map.1 hx
  have := p.2
  omega
theorem coeff_bd (B : Wm) : ∀ x ∈ B.truths.map (fun p => p.1.2), -30000 ≤ x ∧ x ≤ 30000 := fun x hx => by
  obtain ⟨p, _, rfl⟩ := List.mem_map.1 hx
  have := p.2
  omega
theorem Less.lenA {A B : Wm} (h : Less A B) (hA : A.ok = true) (hB : B.ok = true) (tA : A.truths.isEmpty = false) (tB : B.truths.isEmpty = false) : ∃ u v u' v', A.lenA = ((u, v), 0) ∧ B.lenA = ((u', v'), 0) ∧ u' ≤ u ∧ v ≤ v' := by
  have hT : A.truths ≠ [] := fun e => by rw [e] at tA; cases tA
  obtain ⟨h1, h2⟩ := ends_part (L := A.truths.map (fun p => p.1.1)) (M := B.truths.map (fun p => p.1.1)) (by simpa using hT) (fun x hx => by
    obtain ⟨p, hp, rfl⟩ := List.mem_map.1 hx
    exact List.mem_map.2 ⟨p, h.sub hp, rfl⟩) (len_bd B)
  exact ⟨_, _, _, _, say_yes hA tA, say_yes hB tB, h1, h2⟩
theorem Less.coeffA {A B : Wm} (h : Less A B) (hA : A.ok = true) (hB : B.ok = true) (tA : A.truths.isEmpty = false) (tB : B.truths.isEmpty = false) : ∃ u v u' v', A.coeffA = ((u, v), 0) ∧ B.coeffA = ((u', v'), 0) ∧ u' ≤ u ∧ v ≤ v' := by
  have hT : A.truths ≠ [] := fun e => by rw [e] at tA; cases tA
  obtain ⟨h1, h2⟩ := ends_part (L := A.truths.map (fun p => p.1.2)) (M := B.truths.map (fun p => p.1.2)) (by simpa using hT) (fun x hx => by
    obtain ⟨p, hp, rfl⟩ := List.mem_map.1 hx
    exact List.mem_map.2 ⟨p, h.sub hp, rfl⟩) (coeff_bd B)
  exact ⟨_, _, _, _, say_yes hA tA, say_yes hB tB, h1, h2⟩
theorem Less.showsA {A B : Wm} (h : Less A B) (hA : A.ok = true) (hB : B.ok = true) (tA : A.truths.isEmpty = false) (tB : B.truths.isEmpty = false) {t : Int} (t0 : -100 ≤ t) (t1 : t ≤ 100) : ∃ u v u' v', A.showsA t t = ((u, v), 0) ∧ B.showsA t t = ((u', v'), 0) ∧ u' ≤ u ∧ v ≤ v' := by
  obtain ⟨u, v, e1, h1, _, _⟩ := shows_ends hA tA t0 (Int.le_refl t) t1
  obtain ⟨u', v', e2, h2, _, _⟩ := shows_ends hB tB t0 (Int.le_refl t) t1
  have hs : ∀ x, Sh A t t x → Sh B t t x := by
    rintro x ⟨p, hp, t', ht', rfl⟩
    exact ⟨p, h.sub hp, t', ht', by rw [h.m]⟩
  exact ⟨u, v, u', v', e1, e2, (h2.2.2 _ (hs _ h1.1)).1, (h2.2.2 _ (hs _ h1.2.1)).2⟩
theorem widest_sub {m off : Int} {ps qs : List Pr} (h : ∀ p ∈ ps, p ∈ qs) : widest m off qs ≤ widest m off ps := by
  obtain ⟨n, hn⟩ : ∃ n, widest m off ps = n := ⟨_, rfl⟩
  by_cases e : n = 100
  · have := widest_le m off qs
    omega
  · have hs := widest_stop (m := m) (off := off) (ps := ps) (by rw [hn]; exact e)
    rw [hn] at hs ⊢
    rcases Nat.lt_or_ge n (widest m off qs) with hlt | hge
    · have hi := widest_in hlt
      have : roomB m off ps (n + 1) = true := List.all_eq_true.2 (fun p hp => List.all_eq_true.1 hi p (h p hp))
      rw [this] at hs
      cases hs
    · exact hge
theorem Less.roomA {A B : Wm} (h : Less A B) (hA : A.ok = true) (hB : B.ok = true) (tA : A.truths.isEmpty = false) (tB : B.truths.isEmpty = false) {off : Int} (o0 : 0 ≤ off) (o1 : off ≤ 30000) : ∃ n n' : Nat, A.roomA off = ((n : Int), 0) ∧ B.roomA off = ((n' : Int), 0) ∧ n' ≤ n := by
  refine ⟨widest A.mark off A.truths, widest B.mark off B.truths, ?_, ?_, ?_⟩
  · unfold Wm.roomA; rw [if_pos ⟨o0, o1⟩, say_yes hA tA]
  · unfold Wm.roomA; rw [if_pos ⟨o0, o1⟩, say_yes hB tB]
  · rw [h.m]; exact widest_sub (fun p hp => h.sub hp)
/-- A reading more, one that is narrower, and another order. -/
theorem less_more {A B : Wm} (hm : A.mark = B.mark) (ha : A.all = B.all) {r : Wr} (hr : A.rs = B.rs ++ [r]) : Less A B :=
  ⟨hm, ha, fun p hp => by
    rw [hr, hm] at hp
    unfold okAll at hp ⊢
    rw [List.all_append, Bool.and_eq_true] at hp
    exact hp.1⟩
theorem canB_narrow {m : Int} {p : Int × Int} {r r' : Wr} (h1 : r.1 ≤ r'.1) (h2 : r'.2.1 ≤ r.2.1) (h3 : r.2.2.1 ≤ r'.2.2.1) (h4 : r'.2.2.2 ≤ r.2.2.2) (h : canB m p r' = true) : canB m p r = true := by
  unfold canB at h ⊢
  rw [Bool.not_eq_true', List.isEmpty_eq_false_iff] at h ⊢
  obtain ⟨x, hx⟩ := List.exists_mem_of_ne_nil _ h
  obtain ⟨⟨a1, a2⟩, a3, a4⟩ := warms_mem.1 hx
  have : x ∈ warms m p r := warms_mem.2 ⟨⟨by omega, by omega⟩, by omega, by omega⟩
  intro e
  rw [e] at this
  cases this
theorem less_perm {A B : Wm} (hm : A.mark = B.mark) (ha : A.all = B.all) (hr : ∀ r, r ∈ B.rs → r ∈ A.rs) : Less A B :=
  ⟨hm, ha, fun p hp => by
    rw [hm] at hp
    exact List.all_eq_true.2 fun r h => List.all_eq_true.1 hp r (hr r h)⟩
theorem less_narrow {A B : Wm} (hm : A.mark = B.mark) (ha : A.all = B.all) {i : Nat} {r' : Wr} (hi : i < B.rs.length) (hA : A.rs = B.rs.set i r') (h1 : (B.rs[i]).1 ≤ r'.1) (h2 : r'.2.1 ≤ (B.rs[i]).2.1) (h3 : (B.rs[i]).2.2.1 ≤ r'.2.2.1) (h4 : r'.2.2.2 ≤ (B.rs[i]).2.2.2) : Less A B :=
  ⟨hm, ha, fun p hp => by
    rw [hm, hA] at hp
    refine List.all_eq_true.2 fun r h => ?_
    obtain ⟨j, hj, rfl⟩ := List.getElem_of_mem h
    have hjs : j < (B.rs.set i r').length := by rw [List.length_set]; exact hj
    have hc := List.all_eq_true.1 hp _ (List.getElem_mem hjs)
    by_cases e : i = j
    · subst e
      rw [List.getElem_set_self] at hc
      exact canB_narrow h1 h2 h3 h4 hc
    · rw [List.getElem_set_ne e] at hc
      exact hc⟩
end Go.Proofs.Ytmhpgjlegajpeaa
