/-
  ENGINE, seventh part: the law of a region that draws its order.
-/
import Derived.Test.YtmiobcnccbfknaaX6
namespace Go.Proofs.Ytmiobcnccbfknaa
open Go.RowKit

structure Rg.Fit (R : Rg) (N : Nat) (i : Nat) : Prop where
  deps : ∀ j ∈ R.deps i, j < i
  an : ∀ j ∈ R.an i, j < i ∧ (j ∈ R.deps i ∨ ∃ d ∈ R.deps i, j ∈ R.an d)
  dst : ∀ t, R.dst i = some t → R.wr t = some i ∧ t < N
  slots : ∀ t ∈ (R.p i).slots, (∃ j, R.wr t = some j ∧ j ∈ R.an i) ∨ (∃ j, R.wr t = some j ∧ i ∈ R.an j ∧ (look R.st.sl t).isSome = true) ∨ (R.wr t = none ∧ (look R.st.sl t).isSome = true)
  reads : ∀ id ∈ (R.p i).reads, ((R.st.hp[id]?).isSome = true ∨ ∃ j ∈ R.hwr id, j ∈ R.an i) ∧ ∀ j ∈ R.hwr id, j ∈ R.an i ∨ j = i ∨ i ∈ R.an j
  upd : ∀ q ∈ (R.p i).upd, q.1 ∈ (R.p i).news ∨ q.1 ∈ (R.p i).reads
  news : ∀ id ∈ (R.p i).news, R.st.hp[id]? = none ∧ R.has i id = true ∧ (∀ j ∈ R.hwr id, j = i ∨ i ∈ R.an j) ∧ ∀ j, j < R.n → j = i ∨ id ∉ (R.p j).news
  dis : (R.p i).reads.Pairwise (· ≠ ·)
  names : ∀ id ∈ (R.p i).names, (R.st.hp[id]?).isSome = true ∨ id ∈ (R.p i).news ∨ ∃ j ∈ R.an i, id ∈ (R.p j).news
theorem Rg.fit {R : Rg} {N : Nat} (h : R.ok N = true) {i : Nat} (hi : i < R.n) : R.Fit N i := by
  have h := List.all_eq_true.1 h i (List.mem_range.2 hi)
  simp only [Bool.and_eq_true] at h
  obtain ⟨⟨⟨⟨⟨⟨⟨⟨h1, h2⟩, h3⟩, h4⟩, h5⟩, h6⟩, h7⟩, h9⟩, h8⟩ := h
  have blt : ∀ a b : Nat, Nat.blt a b = true → a < b := fun a b h => Nat.le_of_ble_eq_true h
  refine ⟨fun j hj => blt _ _ (List.all_eq_true.1 h1 j hj), fun j hj => ?_, fun t ht => ?_, fun t ht => ?_, fun id hid => ?_, fun q hq => ?_, fun id hid => ?_, distinct_ok h9, fun id hid => ?_⟩
  · have := List.all_eq_true.1 h2 j hj
    simp only [Bool.and_eq_true, Bool.or_eq_true, List.contains_iff_mem, List.any_eq_true] at this
    exact ⟨blt _ _ this.1, this.2⟩
  · rw [ht] at h3
    simp only [Bool.and_eq_true, beq_iff_eq] at h3
    exact ⟨h3.1, blt _ _ h3.2⟩
  · have := List.all_eq_true.1 h4 t ht
    cases hw : R.wr t with
    | none => rw [hw] at this; exact .inr (.inr ⟨rfl, this⟩)
    | some j =>
      rw [hw] at this
      dsimp only at this
      rw [Bool.or_eq_true, Bool.and_eq_true] at this
      rcases this with this | ⟨h1, h2⟩
      · exact .inl ⟨j, rfl, by simpa using this⟩
      · exact .inr (.inl ⟨j, rfl, by simpa using h1, h2⟩)
  · have := List.all_eq_true.1 h5 id hid
    simp only [Bool.and_eq_true, Bool.or_eq_true, List.any_eq_true, List.all_eq_true, List.contains_iff_mem, beq_iff_eq, Rg.inA] at this
    exact ⟨this.1.imp_right fun ⟨j, h1, h2⟩ => ⟨j, h1, h2⟩, fun j hj => or_assoc.1 (this.2 j hj)⟩
  · have := List.all_eq_true.1 h6 q hq
    simpa only [Bool.or_eq_true, List.contains_iff_mem] using this
  · have := List.all_eq_true.1 h7 id hid
    simp only [Bool.and_eq_true, Option.isNone_iff_eq_none, List.all_eq_true, Bool.or_eq_true, beq_iff_eq, List.mem_range, Bool.not_eq_true', List.contains_eq_mem, decide_eq_false_iff_not] at this
    obtain ⟨⟨⟨a1, a2⟩, a3⟩, a4⟩ := this
    exact ⟨a1, a2, fun j hj => by simpa using a3 j hj, fun j hj => a4 j hj⟩
  · have := List.all_eq_true.1 h8 id hid
    simp only [Bool.or_eq_true, List.contains_iff_mem, List.any_eq_true] at this
    exact or_assoc.1 this

/-- These operations are done. -/
def Dn (L : Array Bool) : Nat → Bool := fun j => L.getD j false
/-- With each operation all ahead of it are done. -/
def Rg.Down (R : Rg) (S : Nat → Bool) : Prop := ∀ j, j < R.n → S j = true → ∀ d ∈ R.deps j, S d = true
theorem Rg.anc {R : Rg} {N : Nat} (h : R.ok N = true) {S : Nat → Bool} (hS : R.Down S) : ∀ i, i < R.n → (∀ d ∈ R.deps i, S d = true) → ∀ j ∈ R.an i, S j = true := by
  intro i
  induction i using Nat.strongRecOn with
  | _ i ih =>
    intro hi hd j hj
    have f := R.fit h hi
    rcases (f.an j hj).2 with h1 | ⟨d, h1, h2⟩
    · exact hd j h1
    · have hlt := f.deps d h1
      exact ih d hlt (Nat.lt_trans hlt hi) (hS d (Nat.lt_trans hlt hi) (hd d h1)) j h2
theorem Rg.anc' {R : Rg} {N : Nat} (h : R.ok N = true) {S : Nat → Bool} (hS : R.Down S) {j : Nat} (hj : j < R.n) (hs : S j = true) : ∀ k ∈ R.an j, S k = true := R.anc h hS j hj (hS j hj hs)
theorem Rg.hwr_lt {R : Rg} {id j : Nat} (h : j ∈ R.hwr id) : j < R.n := List.mem_range.1 (List.mem_filter.1 h).1
theorem Rg.hwr_has {R : Rg} {id j : Nat} : j ∈ R.hwr id ↔ j < R.n ∧ R.has j id = true := by
  unfold Rg.hwr
  rw [List.mem_filter, List.mem_range]

structure Rg.Inv (R : Rg) (X : Cx) (L : Array Bool) (a : Act) (w : World) (β : Nat → Nat) : Prop where
  df : Mk X.E X.lo a w
  ej : X.E.J w
  en : X.E.n0 ≤ w.heap.size
  eh : ∀ id, (R.hAt (Dn L) id β).isSome = true → X.E.n0 ≤ R.nm β id ∧ ¬ X.E.D (R.nm β id)
  nd : ∀ id o, R.hAt (Dn L) id β = some o → isDef o = false
  sz : a.tmps.size = X.N
  sl : ∀ t v, R.sAt (Dn L) t β = some v → a.tmps[t]? = some v
  hp : ∀ id o, R.hAt (Dn L) id β = some o → w.heap[R.nm β id]? = some o ∧ (R.nm β id < X.B.heap.size → X.M (R.nm β id))
  inj : ∀ id id', (R.hAt (Dn L) id β).isSome = true → (R.hAt (Dn L) id' β).isSome = true → id ≠ id' → R.nm β id ≠ R.nm β id'
  kp : Kept X.M X.B w

section
variable {R : Rg} {X : Cx} {N : Nat}
theorem cont_some {j id : Nat} {β : Nat → Nat} (h : R.has j id = true) : (R.cont j id β).isSome = true := by
  unfold Rg.has at h
  unfold Rg.cont
  rw [Option.isSome_map, List.find?_isSome]
  simpa [List.any_eq_true] using h
theorem hAt_some {S : Nat → Bool} {id : Nat} {β : Nat → Nat} : (R.hAt S id β).isSome = true ↔ ((R.st.hp[id]?).isSome = true ∨ ∃ j ∈ R.hwr id, S j = true) := by
  unfold Rg.hAt
  cases hl : ((R.hwr id).filter S).getLast? with
  | none =>
    rw [List.getLast?_eq_none_iff, List.filter_eq_nil_iff] at hl
    dsimp only
    rw [Option.isSome_map]
    exact ⟨.inl, fun h => h.resolve_right fun ⟨j, h1, h2⟩ => hl j h1 h2⟩
  | some j =>
    have hm := List.mem_filter.1 (List.mem_of_getLast? hl)
    exact ⟨fun _ => .inr ⟨j, hm⟩, fun _ => cont_some (Rg.hwr_has.1 hm.1).2⟩
/-- What is done does not hang on names that are new. -/
theorem names_same (h : R.ok N = true) {S : Nat → Bool} (hS : R.Down S) {i : Nat} (hi : i < R.n) (hsi : S i = false) {β β' : Nat → Nat} (hb : ∀ id, id ∉ (R.p i).news → β' id = β id) {j : Nat} (hj : j < R.n) (hsj : S j = true) : (R.p j).names.map (R.nm β') = (R.p j).names.map (R.nm β) := by
  apply List.map_congr_left
  intro id hid
  unfold Rg.nm
  cases hh : R.st.hp[id]? with
  | some p => rfl
  | none =>
    dsimp only
    refine hb id fun hn => ?_
    have f := R.fit h hi
    rcases (R.fit h hj).names id hid with h1 | h1 | ⟨k, hk, h1⟩
    · rw [hh] at h1; cases h1
    · rcases (f.news id hn).2.2.2 j hj with e | e
      · subst e; rw [hsi] at hsj; cases hsj
      · exact e h1
    · have hkn : k < R.n := Nat.lt_trans ((R.fit h hj).an k hk).1 hj
      rcases (f.news id hn).2.2.2 k hkn with e | e
      · subst e
        have := R.anc' h hS hj hsj k hk
        rw [hsi] at this
        cases this
      · exact e h1
theorem v_same (h : R.ok N = true) {S : Nat → Bool} (hS : R.Down S) {i : Nat} (hi : i < R.n) (hsi : S i = false) {β β' : Nat → Nat} (hb : ∀ id, id ∉ (R.p i).news → β' id = β id) {j : Nat} (hj : j < R.n) (hsj : S j = true) : R.v j β' = R.v j β := by
  unfold Rg.v
  rw [names_same h hS hi hsi hb hj hsj]
theorem cont_same (h : R.ok N = true) {S : Nat → Bool} (hS : R.Down S) {i : Nat} (hi : i < R.n) (hsi : S i = false) {β β' : Nat → Nat} (hb : ∀ id, id ∉ (R.p i).news → β' id = β id) {j : Nat} (hj : j < R.n) (hsj : S j = true) (id : Nat) : R.cont j id β' = R.cont j id β := by
  unfold Rg.cont
  rw [names_same h hS hi hsi hb hj hsj]
theorem hAt_beta (h : R.ok N = true) {S : Nat → Bool} (hS : R.Down S) {i : Nat} (hi : i < R.n) (hsi : S i = false) {β β' : Nat → Nat} (hb : ∀ id, id ∉ (R.p i).news → β' id = β id) (id : Nat) : R.hAt S id β' = R.hAt S id β := by
  unfold Rg.hAt
  cases hl : ((R.hwr id).filter S).getLast? with
  | none => rfl
  | some j =>
    have hm := List.mem_filter.1 (List.mem_of_getLast? hl)
    exact cont_same h hS hi hsi hb (Rg.hwr_lt hm.1) hm.2 id
theorem nm_same {i : Nat} {β β' : Nat → Nat} (hb : ∀ id, id ∉ (R.p i).news → β' id = β id) {id : Nat} (hn : id ∉ (R.p i).news) : R.nm β' id = R.nm β id := by
  unfold Rg.nm
  cases R.st.hp[id]? with
  | some p => rfl
  | none => exact hb id hn
/-- What an operation reads is as it was, whatever else is done. -/
theorem sAt_in (h : R.ok N = true) {S : Nat → Bool} (hS : R.Down S) {i : Nat} (hi : i < R.n) (hsi : S i = false) (ha : ∀ j ∈ R.an i, S j = true) {t : Nat} (ht : t ∈ (R.p i).slots) (β : Nat → Nat) : R.sAt S t β = R.sAt (R.inA i) t β ∧ (R.sAt (R.inA i) t β).isSome = true := by
  unfold Rg.sAt
  rcases (R.fit h hi).slots t ht with ⟨j, h1, h2⟩ | ⟨j, h1, h2, h4⟩ | ⟨h1, h2⟩
  · rw [h1]
    have h3 : R.inA i j = true := by simpa [Rg.inA] using h2
    dsimp only
    rw [if_pos (ha j h2), if_pos h3]
    exact ⟨rfl, rfl⟩
  · have hj : j < R.n := by
      unfold Rg.wr at h1
      exact List.mem_range.1 (List.mem_of_find?_eq_some h1)
    have h5 : S j = false := by
      cases hs : S j with
      | false => rfl
      | true =>
        have := R.anc' h hS hj hs i h2
        rw [hsi] at this
        cases this
    have h6 : R.inA i j = false := by
      have h7 := ((R.fit h hj).an i h2).1
      cases hc : R.inA i j with
      | false => rfl
      | true =>
        have h8 : j ∈ R.an i := by simpa [Rg.inA] using hc
        have := ((R.fit h hi).an j h8).1
        omega
    rw [h1]
    dsimp only
    rw [h5, h6]
    exact ⟨rfl, h4⟩
  · rw [h1]
    exact ⟨rfl, h2⟩
theorem hAt_in (h : R.ok N = true) {S : Nat → Bool} (hS : R.Down S) {i : Nat} (hi : i < R.n) (hsi : S i = false) (ha : ∀ j ∈ R.an i, S j = true) {id : Nat} (hid : id ∈ (R.p i).reads) (β : Nat → Nat) : R.hAt S id β = R.hAt (R.inA i) id β := by
  have e : (R.hwr id).filter S = (R.hwr id).filter (R.inA i) := by
    apply List.filter_congr
    intro j hj
    by_cases hA : j ∈ R.an i
    · rw [ha j hA]
      exact (by simpa [Rg.inA] using hA : R.inA i j = true).symm
    · have h1 : R.inA i j = false := by simpa [Rg.inA] using hA
      rw [h1]
      cases hsj : S j with
      | false => rfl
      | true =>
        exfalso
        rcases ((R.fit h hi).reads id hid).2 j hj with h2 | h2 | h2
        · exact hA h2
        · subst h2; rw [hsi] at hsj; cases hsj
        · have := R.anc' h hS (Rg.hwr_lt hj) hsj i h2
          rw [hsi] at this
          cases this
  unfold Rg.hAt
  rw [e]
theorem wr_is {t j : Nat} (h : R.wr t = some j) : j < R.n ∧ R.dst j = some t := by
  unfold Rg.wr at h
  exact ⟨List.mem_range.1 (List.mem_of_find?_eq_some h), by simpa using List.find?_some h⟩
end
end Go.Proofs.Ytmiobcnccbfknaa
