/-
  PAIR: groups of blocks that hang together by what was read.
-/
import Derived.Test.YtmiobcnccbfknaaQ5
namespace Go.Proofs.Ytmiobcnccbfknaa

/-- Two blocks that some reading compares. -/
def Lnk (rs : List Rdg) (i j : Nat) : Prop := ∃ r ∈ rs, r.a = i ∧ r.b = j ∨ r.a = j ∧ r.b = i
theorem Lnk.symm {rs : List Rdg} {i j : Nat} (h : Lnk rs i j) : Lnk rs j i := by
  obtain ⟨r, hr, h | h⟩ := h
  · exact ⟨r, hr, .inr h⟩
  · exact ⟨r, hr, .inl h⟩
/-- Two blocks that hang together. -/
inductive Hang (rs : List Rdg) (i : Nat) : Nat → Prop
  | own : Hang rs i i
  | on {j k : Nat} : Hang rs i j → Lnk rs j k → Hang rs i k
theorem Hang.trans {rs : List Rdg} {i j k : Nat} (h : Hang rs i j) (h' : Hang rs j k) : Hang rs i k := by
  induction h' with
  | own => exact h
  | on _ l ih => exact .on ih l
theorem Hang.symm {rs : List Rdg} {i j : Nat} (h : Hang rs i j) : Hang rs j i := by
  induction h with
  | own => exact .own
  | on _ l ih => exact Hang.trans (.on .own l.symm) ih
/-- A set out of which no reading leads. -/
def Sealed (rs : List Rdg) (J : Nat → Prop) : Prop := ∀ i j, J i → Lnk rs i j → J j
theorem Sealed.hang {rs : List Rdg} {J : Nat → Prop} (h : Sealed rs J) {i j : Nat} (hi : J i) (hh : Hang rs i j) : J j := by
  induction hh with
  | own => exact hi
  | on _ l ih => exact h _ _ ih l
/-- What a block's joining makes of the blocks that are joined. -/
structure Joins (rs : List Rdg) (J : Nat → Prop) (b : Nat) (J' : Nat → Prop) : Prop where
  up : ∀ i, J i → J' i
  own : J' b
  from_ : ∀ i, J' i → J i ∨ Hang rs b i
  all : ∀ i j, J' i → Lnk rs i j → J i ∨ J' j
/-- A block that is joined already: nothing. -/
theorem Joins.had {rs : List Rdg} {J : Nat → Prop} {b : Nat} (h : J b) : Joins rs J b J :=
  ⟨fun _ h => h, h, fun _ h => .inl h, fun _ _ h _ => .inl h⟩
/-- While a block is being joined: it is in, some of its readings have been gone through. -/
structure Going (rs : List Rdg) (J : Nat → Prop) (b : Nat) (pre : List Rdg) (J' : Nat → Prop) : Prop where
  up : ∀ i, J i → J' i
  own : J' b
  from_ : ∀ i, J' i → J i ∨ Hang rs b i
  all : ∀ i j, i ≠ b → J' i → Lnk rs i j → J i ∨ J' j
  gone : ∀ j, Lnk pre b j → J' j
theorem Going.start (rs : List Rdg) (J : Nat → Prop) (b : Nat) : Going rs J b [] (fun i => J i ∨ i = b) :=
  ⟨fun _ h => .inl h, .inr rfl, fun i h => h.elim .inl (fun e => .inr (e ▸ .own)), fun i j hi h _ => h.elim (fun h => .inl h) (fun e => (hi e).elim), fun j ⟨r, hr, _⟩ => by cases hr⟩
/-- A reading of other blocks. -/
theorem Going.pass {rs pre : List Rdg} {J J' : Nat → Prop} {b : Nat} {r : Rdg} (h : Going rs J b pre J') (ha : r.a ≠ b) (hb : r.b ≠ b) : Going rs J b (pre ++ [r]) J' :=
  ⟨h.up, h.own, h.from_, h.all, fun j ⟨q, hq, hj⟩ => by
    rcases List.mem_append.1 hq with hq | hq
    · exact h.gone j ⟨q, hq, hj⟩
    · rw [List.mem_singleton] at hq
      subst hq
      rcases hj with ⟨e, _⟩ | ⟨_, e⟩
      · exact (ha e).elim
      · exact (hb e).elim⟩
/-- A reading of the block and another one, o: o is joined. -/
theorem Going.step {rs pre : List Rdg} {J J' J2 : Nat → Prop} {b o : Nat} {r : Rdg} (h : Going rs J b pre J') (hr : r ∈ rs) (hab : r.a = b ∧ r.b = o ∨ r.a = o ∧ r.b = b) (hne : r.a ≠ r.b) (hj : Joins rs J' o J2) : Going rs J b (pre ++ [r]) J2 := by
  have hl : Lnk rs b o := ⟨r, hr, hab⟩
  refine ⟨fun i hi => hj.up i (h.up i hi), hj.up b h.own, fun i hi => ?_, fun i j hi hi2 hl2 => ?_, fun j hj2 => ?_⟩
  · rcases hj.from_ i hi with h1 | h1
    · exact h.from_ i h1
    · exact .inr (Hang.trans (.on .own hl) h1)
  · rcases hj.all i j hi2 hl2 with h1 | h1
    · rcases h.all i j hi h1 hl2 with h2 | h2
      · exact .inl h2
      · exact .inr (hj.up j h2)
    · exact .inr h1
  · obtain ⟨q, hq, hj3⟩ := hj2
    rcases List.mem_append.1 hq with hq | hq
    · exact hj.up j (h.gone j ⟨q, hq, hj3⟩)
    · rw [List.mem_singleton] at hq
      subst hq
      have e : j = o := by omega
      subst e
      exact hj.own
theorem Going.done {rs : List Rdg} {J J' : Nat → Prop} {b : Nat} (h : Going rs J b rs J') : Joins rs J b J' :=
  ⟨h.up, h.own, h.from_, fun i j hi hl => by
    by_cases e : i = b
    · subst e
      exact .inr (h.gone j hl)
    · exact h.all i j e hi hl⟩
/-- Joined to a set out of which no reading leads: just the block's group comes in. -/
theorem Joins.shut {rs : List Rdg} {J J' : Nat → Prop} {b : Nat} (h : Joins rs J b J') (hs : Sealed rs J) : Sealed rs J' ∧ ∀ i, J' i ↔ J i ∨ Hang rs b i := by
  have h1 : Sealed rs J' := fun i j hi hl => (h.all i j hi hl).elim (fun h2 => h.up j (hs i j h2 hl)) id
  exact ⟨h1, fun i => ⟨h.from_ i, fun hi => hi.elim (h.up i) (h1.hang h.own)⟩⟩
/-- How many of the first n blocks hang together with none before them. -/
noncomputable def groupsN (rs : List Rdg) (n : Nat) : Nat := by
  classical exact (List.range n).countP fun i => decide (∀ j, j < i → ¬ Hang rs j i)
theorem groupsN_zero (rs : List Rdg) : groupsN rs 0 = 0 := rfl
theorem groupsN_succ (rs : List Rdg) (n : Nat) : (∃ j, j < n ∧ Hang rs j n) ∧ groupsN rs (n + 1) = groupsN rs n ∨ (¬ ∃ j, j < n ∧ Hang rs j n) ∧ groupsN rs (n + 1) = groupsN rs n + 1 := by
  classical
  unfold groupsN
  rw [List.range_succ, List.countP_append]
  by_cases h : ∃ j, j < n ∧ Hang rs j n
  · refine .inl ⟨h, ?_⟩
    obtain ⟨j, h1, h2⟩ := h
    have : ¬ ∀ j, j < n → ¬ Hang rs j n := fun h3 => h3 j h1 h2
    simp [this]
  · refine .inr ⟨h, ?_⟩
    have : ∀ j, j < n → ¬ Hang rs j n := fun j h1 h2 => h ⟨j, h1, h2⟩
    simp only [List.countP_singleton]
    rw [if_pos (decide_eq_true this)]
/-- Behind the first k blocks: the groups that have been counted. -/
structure Counted (rs : List Rdg) (k : Nat) (J : Nat → Prop) (many : Nat) : Prop where
  shut : Sealed rs J
  has : ∀ i, J i ↔ ∃ j, j < k ∧ Hang rs j i
  many : many = groupsN rs k
theorem Counted.start (rs : List Rdg) : Counted rs 0 (fun _ => False) 0 :=
  ⟨fun _ _ h _ => h, fun i => ⟨False.elim, fun ⟨_, h, _⟩ => by omega⟩, (groupsN_zero rs).symm⟩
/-- A block that has been joined. -/
theorem Counted.had {rs : List Rdg} {k many : Nat} {J : Nat → Prop} (h : Counted rs k J many) (hk : J k) : Counted rs (k + 1) J many := by
  have h1 := (h.has k).1 hk
  refine ⟨h.shut, fun i => ⟨fun hi => ?_, fun ⟨j, hj, hh⟩ => ?_⟩, ?_⟩
  · obtain ⟨j, h2, h3⟩ := (h.has i).1 hi
    exact ⟨j, by omega, h3⟩
  · by_cases e : j = k
    · subst e
      exact h.shut.hang hk hh
    · exact (h.has i).2 ⟨j, by omega, hh⟩
  · rcases groupsN_succ rs k with ⟨_, h2⟩ | ⟨h2, _⟩
    · rw [h2]
      exact h.many
    · exact (h2 h1).elim
/-- A block of a new group. -/
theorem Counted.new {rs : List Rdg} {k many : Nat} {J J' : Nat → Prop} (h : Counted rs k J many) (hk : ¬ J k) (hj : Joins rs J k J') : Counted rs (k + 1) J' (many + 1) := by
  obtain ⟨h1, h2⟩ := hj.shut h.shut
  refine ⟨h1, fun i => ⟨fun hi => ?_, fun ⟨j, hj2, hh⟩ => ?_⟩, ?_⟩
  · rcases (h2 i).1 hi with h3 | h3
    · obtain ⟨j, h4, h5⟩ := (h.has i).1 h3
      exact ⟨j, by omega, h5⟩
    · exact ⟨k, by omega, h3⟩
  · by_cases e : j = k
    · subst e
      exact (h2 i).2 (.inr hh)
    · exact (h2 i).2 (.inl ((h.has i).2 ⟨j, by omega, hh⟩))
  · rcases groupsN_succ rs k with ⟨h3, _⟩ | ⟨_, h3⟩
    · exact (hk ((h.has k).2 h3)).elim
    · rw [h3, h.many]
end Go.Proofs.Ytmiobcnccbfknaa
