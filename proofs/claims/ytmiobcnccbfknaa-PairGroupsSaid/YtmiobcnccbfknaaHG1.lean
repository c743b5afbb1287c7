/-
  LAW: PairGroups: numbers.
-/
import Derived.Test.YtmiobcnccbfknaaHF3
namespace Go.Proofs.Ytmiobcnccbfknaa
open Go.RowKit Go.Proofs.Try


theorem bits_or_eq (s b : Nat) : (fun i => (s ||| 1 <<< b).testBit i = true) = fun i => s.testBit i = true ∨ i = b := by
  funext i
  rw [bit_or]
  simp
theorem joinF_joins {rs : List Rdg} (hne : ∀ r ∈ rs, r.a ≠ r.b) (h5 : ∀ r ∈ rs, r.a < 5 ∧ r.b < 5) : ∀ (n s b : Nat), muJ s < n → b < 5 → Joins rs (fun i => s.testBit i = true) b (fun i => (joinF rs n s b).testBit i = true)
  | 0, _, _, h, _ => absurd h (Nat.not_lt_zero _)
  | n + 1, s, b, hm, hb => by
    cases hs : s.testBit b with
    | true => rw [joinF_yes hs]; exact Joins.had hs
    | false =>
      have hmu := muJ_or hb hs
      have key : ∀ (suf pre : List Rdg) (t : Nat), rs = pre ++ suf → Going rs (fun i => s.testBit i = true) b pre (fun i => t.testBit i = true) → Sub (s ||| 1 <<< b) t → Joins rs (fun i => s.testBit i = true) b (fun i => (suf.foldl (joinS rs n b) t).testBit i = true) := by
        intro suf
        induction suf with
        | nil =>
          intro pre t hrs hg _
          rw [List.append_nil] at hrs
          subst hrs
          exact hg.done
        | cons r suf ih =>
          intro pre t hrs hg hsub
          have hr : r ∈ rs := by rw [hrs]; simp
          have hmt := muJ_sub hsub
          have e : rs = (pre ++ [r]) ++ suf := by rw [hrs]; simp
          rw [List.foldl_cons]
          unfold joinS
          by_cases ha : r.a = b
          · rw [if_pos ha]
            exact ih (pre ++ [r]) _ e (hg.step hr (.inl ⟨ha, rfl⟩) (hne r hr) (joinF_joins hne h5 n t r.b (by omega) (h5 r hr).2)) (hsub.trans (joinF_sub rs n t _))
          · rw [if_neg ha]
            by_cases hb2 : r.b = b
            · rw [if_pos hb2]
              exact ih (pre ++ [r]) _ e (hg.step hr (.inr ⟨rfl, hb2⟩) (hne r hr) (joinF_joins hne h5 n t r.a (by omega) (h5 r hr).1)) (hsub.trans (joinF_sub rs n t _))
            · rw [if_neg hb2]
              exact ih (pre ++ [r]) _ e (hg.pass ha hb2) hsub
      rw [joinF_no hs]
      unfold joinK
      rw [List.take_length]
      exact key rs [] _ rfl (by rw [bits_or_eq]; exact Going.start _ _ _) (Sub.refl _)
theorem grp_counted {rs : List Rdg} (hne : ∀ r ∈ rs, r.a ≠ r.b) (h5 : ∀ r ∈ rs, r.a < 5 ∧ r.b < 5) : ∀ k, k ≤ 5 → Counted rs k (fun i => (grpS rs k).1.testBit i = true) (grpS rs k).2
  | 0, _ => by
    have e : (fun i => (grpS rs 0).1.testBit i = true) = fun _ => False := by funext i; show ((0 : Nat).testBit i = true) = False; simp
    rw [e]
    exact Counted.start rs
  | k + 1, hk => by
    have ih := grp_counted hne h5 k (by omega)
    rw [grpS]
    cases hb : (grpS rs k).1.testBit k with
    | true => rw [if_pos rfl]; exact ih.had hb
    | false =>
      rw [if_neg (by simp)]
      exact ih.new (by rw [hb]; simp) (joinF_joins hne h5 6 _ k (muJ_le _) (by omega))
theorem grp_is {rs : List Rdg} (hne : ∀ r ∈ rs, r.a ≠ r.b) (h5 : ∀ r ∈ rs, r.a < 5 ∧ r.b < 5) {n : Nat} (hn : n ≤ 5) : (grpS rs n).2 = groupsN rs n := (grp_counted hne h5 n hn).many
theorem groupsN_le (rs : List Rdg) : ∀ n, groupsN rs n ≤ n
  | 0 => Nat.le_refl _
  | n + 1 => by
    have := groupsN_le rs n
    rcases groupsN_succ rs n with ⟨_, h⟩ | ⟨_, h⟩ <;> omega
theorem groupsN_pos (rs : List Rdg) : ∀ n, 1 ≤ n → 1 ≤ groupsN rs n
  | 0, h => h
  | n + 1, _ => by
    rcases groupsN_succ rs n with ⟨⟨j, hj, _⟩, h⟩ | ⟨_, h⟩
    · have := groupsN_pos rs n (by omega)
      omega
    · omega
theorem hang_nil {i j : Nat} (h : Hang [] i j) : i = j := by
  induction h with
  | own => rfl
  | on _ l _ => obtain ⟨r, hr, _⟩ := l; cases hr
theorem groupsN_nil : ∀ n, groupsN [] n = n
  | 0 => rfl
  | n + 1 => by
    have := groupsN_nil n
    rcases groupsN_succ [] n with ⟨⟨j, hj, hh⟩, h⟩ | ⟨_, h⟩
    · have := hang_nil hh
      omega
    · omega
theorem Lnk.more {rs : List Rdg} {i j : Nat} (h : Lnk rs i j) (r : Rdg) : Lnk (rs ++ [r]) i j := by
  obtain ⟨q, hq, h⟩ := h
  exact ⟨q, List.mem_append_left _ hq, h⟩
theorem Hang.more {rs : List Rdg} {i j : Nat} (h : Hang rs i j) (r : Rdg) : Hang (rs ++ [r]) i j := by
  induction h with
  | own => exact .own
  | on _ l ih => exact .on ih (l.more r)
theorem hang_new (rs : List Rdg) (r : Rdg) : Hang (rs ++ [r]) r.a r.b := .on .own ⟨r, by simp, .inl ⟨rfl, rfl⟩⟩
theorem Hang.less {rs : List Rdg} {r : Rdg} {i j : Nat} (h : Hang (rs ++ [r]) i j) : Hang rs i j ∨ (Hang rs i r.a ∧ Hang rs r.b j) ∨ (Hang rs i r.b ∧ Hang rs r.a j) := by
  induction h with
  | own => exact .inl .own
  | on h1 l ih =>
    obtain ⟨q, hq, hl⟩ := l
    rcases List.mem_append.1 hq with hq | hq
    · rcases ih with ih | ⟨i1, i2⟩ | ⟨i1, i2⟩
      · exact .inl (.on ih ⟨q, hq, hl⟩)
      · exact .inr (.inl ⟨i1, .on i2 ⟨q, hq, hl⟩⟩)
      · exact .inr (.inr ⟨i1, .on i2 ⟨q, hq, hl⟩⟩)
    · rw [List.mem_singleton] at hq
      subst hq
      rcases hl with ⟨e1, e2⟩ | ⟨e1, e2⟩
      · subst e1; subst e2
        rcases ih with ih | ⟨i1, i2⟩ | ⟨i1, i2⟩
        · exact .inr (.inl ⟨ih, .own⟩)
        · exact .inr (.inl ⟨i1, .own⟩)
        · exact .inl i1
      · subst e1; subst e2
        rcases ih with ih | ⟨i1, i2⟩ | ⟨i1, i2⟩
        · exact .inr (.inr ⟨ih, .own⟩)
        · exact .inl i1
        · exact .inr (.inr ⟨i1, .own⟩)
/-- The least block that hangs together with one. -/
theorem least_of (rs : List Rdg) (x : Nat) : ∃ m, m ≤ x ∧ Hang rs m x ∧ ∀ j, j < m → ¬ Hang rs j x := by
  have : ∀ k, k ≤ x → (∃ m, m ≤ x ∧ Hang rs m x ∧ ∀ j, j < m → ¬ Hang rs j x) ∨ ∀ j, j < k → ¬ Hang rs j x := by
    intro k
    induction k with
    | zero => exact fun _ => .inr fun j h => by omega
    | succ k ih =>
      intro hk
      rcases ih (by omega) with h | h
      · exact .inl h
      · by_cases hh : Hang rs k x
        · exact .inl ⟨k, by omega, hh, h⟩
        · refine .inr fun j hj => ?_
          by_cases e : j = k
          · subst e; exact hh
          · exact h j (by omega)
  rcases this x (Nat.le_refl _) with h | h
  · exact h
  · exact ⟨x, Nat.le_refl _, .own, h⟩
theorem groupsN_same {rs rs' : List Rdg} (h : ∀ i j, Hang rs' i j ↔ Hang rs i j) : ∀ n, groupsN rs' n = groupsN rs n
  | 0 => rfl
  | n + 1 => by
    have ih := groupsN_same h n
    rcases groupsN_succ rs n with ⟨⟨j, h1, h2⟩, h3⟩ | ⟨h1, h3⟩ <;> rcases groupsN_succ rs' n with ⟨⟨j', h4, h5⟩, h6⟩ | ⟨h4, h6⟩
    · omega
    · exact absurd ⟨j, h1, (h j n).2 h2⟩ h4
    · exact absurd ⟨j', h4, (h j' n).1 h5⟩ h1
    · omega
theorem groupsN_drop {rs rs' : List Rdg} {M : Nat} (hM : ∀ j, j < M → ¬ Hang rs j M) (h : ∀ i, (∀ j, j < i → ¬ Hang rs' j i) ↔ (∀ j, j < i → ¬ Hang rs j i) ∧ i ≠ M) : ∀ n, groupsN rs' n + (if M < n then 1 else 0) = groupsN rs n
  | 0 => rfl
  | n + 1 => by
    have ih := groupsN_drop hM h n
    have hn := h n
    rcases groupsN_succ rs n with ⟨⟨j, h1, h2⟩, h3⟩ | ⟨h1, h3⟩ <;> rcases groupsN_succ rs' n with ⟨⟨j', h4, h5⟩, h6⟩ | ⟨h4, h6⟩
    · have : n ≠ M := by rintro rfl; exact hM j h1 h2
      by_cases hl : M < n
      · rw [if_pos hl] at ih; rw [if_pos (by omega)]; omega
      · rw [if_neg hl] at ih; rw [if_neg (by omega)]; omega
    · exact absurd h2 ((hn.1 fun j hj hh => h4 ⟨j, hj, hh⟩).1 j h1)
    · have e : n = M := Decidable.byContradiction fun he => (hn.2 ⟨fun j hj hh => h1 ⟨j, hj, hh⟩, he⟩) j' h4 h5
      rw [if_neg (by omega)] at ih
      rw [if_pos (by omega)]
      omega
    · have := (hn.1 fun j hj hh => h4 ⟨j, hj, hh⟩).2
      by_cases hl : M < n
      · rw [if_pos hl] at ih; rw [if_pos (by omega)]; omega
      · rw [if_neg hl] at ih; rw [if_neg (by omega)]; omega
/-- With a reading more there are as many groups if both hung together already, else one less. -/
theorem groups_add (rs : List Rdg) (r : Rdg) {n : Nat} (ha : r.a < n) (hb : r.b < n) : (Hang rs r.a r.b ∧ groupsN (rs ++ [r]) n = groupsN rs n) ∨ (¬ Hang rs r.a r.b ∧ groupsN (rs ++ [r]) n + 1 = groupsN rs n) := by
  by_cases hh : Hang rs r.a r.b
  · refine .inl ⟨hh, groupsN_same (fun i j => ⟨fun h => ?_, fun h => h.more r⟩) n⟩
    rcases h.less with h | ⟨h1, h2⟩ | ⟨h1, h2⟩
    · exact h
    · exact (h1.trans hh).trans h2
    · exact (h1.trans hh.symm).trans h2
  · refine .inr ⟨hh, ?_⟩
    obtain ⟨ma, a1, a2, a3⟩ := least_of rs r.a
    obtain ⟨mb, b1, b2, b3⟩ := least_of rs r.b
    have hne : ma ≠ mb := by rintro rfl; exact hh (a2.symm.trans b2)
    have minA : ∀ j, j < ma → ¬ Hang rs j ma := fun j hj h => a3 j hj (h.trans a2)
    have minB_ : ∀ j, j < mb → ¬ Hang rs j mb := fun j hj h => b3 j hj (h.trans b2)
    have hab : Hang (rs ++ [r]) ma mb := ((a2.more r).trans (hang_new rs r)).trans (b2.symm.more r)
    have key := groupsN_drop (rs := rs) (rs' := rs ++ [r]) (M := max ma mb) (by
      rcases Nat.le_total ma mb with h | h
      · rw [Nat.max_eq_right h]; exact minB_
      · rw [Nat.max_eq_left h]; exact minA) (fun i => ⟨fun h => ⟨fun j hj hj2 => h j hj (hj2.more r), fun e => ?_⟩, fun ⟨h, hi⟩ j hj hj2 => ?_⟩) n
    · rw [if_pos (by omega)] at key
      exact key
    · rcases Nat.lt_or_ge ma mb with hl | hl
      · rw [Nat.max_eq_right (by omega)] at e
        subst e
        exact h ma hl hab
      · rw [Nat.max_eq_left hl] at e
        subst e
        exact h mb (by omega) hab.symm
    · rcases hj2.less with h1 | ⟨h1, h2⟩ | ⟨h1, h2⟩
      · exact h j hj h1
      · -- i is the least of b's
        have ei : i = mb := by
          rcases Nat.lt_trichotomy i mb with q | q | q
          · exact absurd h2.symm (b3 i q)
          · exact q
          · exact absurd (b2.trans h2) (h mb q)
        have : ma ≤ j := Nat.le_of_not_lt fun q => a3 j q h1
        omega
      · have ei : i = ma := by
          rcases Nat.lt_trichotomy i ma with q | q | q
          · exact absurd h2.symm (a3 i q)
          · exact q
          · exact absurd (a2.trans h2) (h ma q)
        have : mb ≤ j := Nat.le_of_not_lt fun q => b3 j q h1
        omega
theorem snoc_ind {α : Type} {P : List α → Prop} (h0 : P []) (h1 : ∀ l x, P l → P (l ++ [x])) (l : List α) : P l := by
  have : ∀ l : List α, P l.reverse := by
    intro l
    induction l with
    | nil => exact h0
    | cons x l ih => rw [List.reverse_cons]; exact h1 _ _ ih
  have h := this l.reverse
  rwa [List.reverse_reverse] at h
theorem groups_bounds {n : Nat} (rs : List Rdg) : (∀ r ∈ rs, r.a < n ∧ r.b < n ∧ r.a ≠ r.b) → n ≤ groupsN rs n + rs.length ∧ (rs ≠ [] → groupsN rs n < n) := by
  refine snoc_ind (P := fun rs => (∀ r ∈ rs, r.a < n ∧ r.b < n ∧ r.a ≠ r.b) → n ≤ groupsN rs n + rs.length ∧ (rs ≠ [] → groupsN rs n < n)) (fun _ => ⟨by rw [groupsN_nil]; omega, fun h => absurd rfl h⟩) (fun rs r ih => ?_) rs
  · intro h
    have ih := ih fun q hq => h q (List.mem_append_left _ hq)
    have hr := h r (by simp)
    have hle := groupsN_le rs n
    rw [List.length_append, List.length_singleton]
    rcases groups_add rs r hr.1 hr.2.1 with ⟨h1, h2⟩ | ⟨h1, h2⟩
    · refine ⟨by omega, fun _ => ?_⟩
      have hn : rs ≠ [] := by
        rintro rfl
        exact hr.2.2 (hang_nil h1)
      have := ih.2 hn
      omega
    · exact ⟨by omega, fun _ => by omega⟩
end Go.Proofs.Ytmiobcnccbfknaa
