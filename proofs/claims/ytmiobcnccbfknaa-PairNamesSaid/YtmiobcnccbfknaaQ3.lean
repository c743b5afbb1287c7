/-
  PAIR: what is told of all truths: hulls, in whatever order the comparators come.
-/
import Derived.Test.YtmiobcnccbfknaaQ2
namespace Go.Proofs.Ytmiobcnccbfknaa

/-- All comparators that a pair can have, in order. -/
def Prn.comps (p : Prn) : List (Int × Int) := (List.range (p.zhi - p.zlo + 1).toNat).flatMap fun (i : Nat) => (List.range (p.rhi - p.rlo + 1).toNat).map fun (j : Nat) => (p.zlo + (i : Int), p.rlo + (j : Int))
theorem Prn.mem_comps {p : Prn} {c : Int × Int} : c ∈ p.comps ↔ (p.zlo ≤ c.1 ∧ c.1 ≤ p.zhi) ∧ p.rlo ≤ c.2 ∧ c.2 ≤ p.rhi := by
  unfold Prn.comps
  rw [List.mem_flatMap]
  constructor
  · rintro ⟨i, hi, hc⟩
    obtain ⟨j, hj, rfl⟩ := List.mem_map.1 hc
    have h1 := List.mem_range.1 hi
    have h2 := List.mem_range.1 hj
    dsimp only
    omega
  · rintro ⟨⟨h1, h2⟩, h3, h4⟩
    obtain ⟨z, r⟩ := c
    dsimp only at h1 h2 h3 h4
    refine ⟨(z - p.zlo).toNat, List.mem_range.2 (by omega), List.mem_map.2 ⟨(r - p.rlo).toNat, List.mem_range.2 (by omega), ?_⟩⟩
    rw [Prod.mk.injEq]
    omega
/-- No comparator comes twice. -/
theorem Prn.comps_nodup (p : Prn) : p.comps.Nodup := by
  unfold Prn.comps
  rw [List.nodup_iff_pairwise_ne, List.pairwise_flatMap]
  refine ⟨fun i _ => ?_, ?_⟩
  · rw [List.pairwise_map]
    exact (List.nodup_iff_pairwise_ne.1 List.nodup_range).imp fun h e => h (by
      rw [Prod.mk.injEq] at e
      omega)
  · refine (List.nodup_iff_pairwise_ne.1 List.nodup_range).imp ?_
    intro i j h c hc c' hc' e
    obtain ⟨a, _, rfl⟩ := List.mem_map.1 hc
    obtain ⟨b, _, rfl⟩ := List.mem_map.1 hc'
    rw [Prod.mk.injEq] at e
    omega
/-- What is left with each comparator with which there is a truth. -/
def Prn.known (p : Prn) : List ((Int × Int) × Gp) := p.comps.filterMap fun c => (p.left c).map fun g => (c, g)
theorem Prn.mem_known {p : Prn} {k : (Int × Int) × Gp} : k ∈ p.known ↔ k.1 ∈ p.comps ∧ p.left k.1 = some k.2 := by
  unfold Prn.known
  rw [List.mem_filterMap]
  constructor
  · rintro ⟨c, hc, e⟩
    cases h : p.left c with
    | none =>
      rw [h] at e
      cases e
    | some g =>
      rw [h] at e
      cases e
      exact ⟨hc, h⟩
  · rintro ⟨hc, e⟩
    exact ⟨k.1, hc, by rw [e]; rfl⟩
/-- Is something so of some truth? Just if there is one, with some comparator. -/
def Prn.some_ (p : Prn) (so : (Int × Int) → (Nat → Int) → Prop) : Prop := ∃ c ∈ p.comps, ∃ x, p.Tr c x ∧ so c x
theorem Prn.known_is {p : Prn} (hp : p.Ok) : p.known ≠ [] ↔ p.some_ fun _ _ => True := by
  constructor
  · intro h
    obtain ⟨k, hk⟩ := List.exists_mem_of_ne_nil _ h
    obtain ⟨h1, h2⟩ := Prn.mem_known.1 hk
    obtain ⟨x, hx⟩ := (Prn.left_is hp k.1).1 (by rw [h2]; rfl)
    exact ⟨k.1, h1, x, hx, trivial⟩
  · rintro ⟨c, hc, x, hx, _⟩
    have h := (Prn.left_is hp c).2 ⟨x, hx⟩
    obtain ⟨g, hg⟩ := Option.isSome_iff_exists.1 h
    exact List.ne_nil_of_mem (Prn.mem_known.2 ⟨hc, hg⟩ : (c, g) ∈ p.known)
/-- The span from the least to the greatest number that is told. -/
def hullS (s : Int × Int) (l : List (Int × Int)) : Int × Int := l.foldl (fun s t => (min s.1 t.1, max s.2 t.2)) s
def hull0 : Int × Int := (9223372036854775807, -9223372036854775808)
theorem hullS_perm {l l' : List (Int × Int)} (h : l.Perm l') : ∀ s, hullS s l = hullS s l' := by
  intro s
  refine h.foldl_eq' (fun a _ b _ s => ?_) s
  rw [Prod.mk.injEq]
  dsimp only
  omega
theorem hullS_min : ∀ (l : List (Int × Int)) (s : Int × Int), (hullS s l).1 ≤ s.1 ∧ (∀ t ∈ l, (hullS s l).1 ≤ t.1) ∧ ((hullS s l).1 = s.1 ∨ ∃ t ∈ l, (hullS s l).1 = t.1)
  | [], s => ⟨Int.le_refl _, fun t ht => (by cases ht), .inl rfl⟩
  | t :: l, s => by
    have h := hullS_min l (min s.1 t.1, max s.2 t.2)
    have e : hullS s (t :: l) = hullS (min s.1 t.1, max s.2 t.2) l := rfl
    rw [e]
    obtain ⟨h1, h2, h3⟩ := h
    dsimp only at h1 h3
    refine ⟨by omega, fun q hq => ?_, ?_⟩
    · rcases List.mem_cons.1 hq with rfl | hq
      · omega
      · exact h2 q hq
    · rcases h3 with h3 | ⟨q, hq, h3⟩
      · by_cases hst : s.1 ≤ t.1
        · exact .inl (by omega)
        · exact .inr ⟨t, List.mem_cons_self, by omega⟩
      · exact .inr ⟨q, List.mem_cons_of_mem _ hq, h3⟩
theorem hullS_max : ∀ (l : List (Int × Int)) (s : Int × Int), s.2 ≤ (hullS s l).2 ∧ (∀ t ∈ l, t.2 ≤ (hullS s l).2) ∧ ((hullS s l).2 = s.2 ∨ ∃ t ∈ l, (hullS s l).2 = t.2)
  | [], s => ⟨Int.le_refl _, fun t ht => (by cases ht), .inl rfl⟩
  | t :: l, s => by
    have h := hullS_max l (min s.1 t.1, max s.2 t.2)
    have e : hullS s (t :: l) = hullS (min s.1 t.1, max s.2 t.2) l := rfl
    rw [e]
    obtain ⟨h1, h2, h3⟩ := h
    dsimp only at h1 h3
    refine ⟨by omega, fun q hq => ?_, ?_⟩
    · rcases List.mem_cons.1 hq with rfl | hq
      · omega
      · exact h2 q hq
    · rcases h3 with h3 | ⟨q, hq, h3⟩
      · by_cases hst : t.2 ≤ s.2
        · exact .inl (by omega)
        · exact .inr ⟨t, List.mem_cons_self, by omega⟩
      · exact .inr ⟨q, List.mem_cons_of_mem _ hq, h3⟩
/-- What the hull of spans is that keep to limits. -/
theorem hull_is {l : List (Int × Int)} (hn : l ≠ []) (hb : ∀ t ∈ l, t.1 ≤ 9223372036854775807 ∧ -9223372036854775808 ≤ t.2) : (∀ t ∈ l, (hullS hull0 l).1 ≤ t.1 ∧ t.2 ≤ (hullS hull0 l).2) ∧ (∃ t ∈ l, (hullS hull0 l).1 = t.1) ∧ ∃ t ∈ l, (hullS hull0 l).2 = t.2 := by
  obtain ⟨_, a2, a3⟩ := hullS_min l hull0
  obtain ⟨_, b2, b3⟩ := hullS_max l hull0
  obtain ⟨q, hq⟩ := List.exists_mem_of_ne_nil _ hn
  have hq2 := hb q hq
  refine ⟨fun t ht => ⟨a2 t ht, b2 t ht⟩, ?_, ?_⟩
  · rcases a3 with a3 | a3
    · refine ⟨q, hq, ?_⟩
      have := a2 q hq
      have e : hull0.1 = 9223372036854775807 := rfl
      omega
    · exact a3
  · rcases b3 with b3 | b3
    · refine ⟨q, hq, ?_⟩
      have := b2 q hq
      have e : hull0.2 = -9223372036854775808 := rfl
      omega
    · exact b3
/-- By how much two places differ, by all truths. -/
def Prn.differA (p : Prn) (a b : Nat) : Int × Int := hullS hull0 (p.known.map fun k => (-k.2 b a, k.2 a b))
theorem Prn.differA_is {p : Prn} (hp : p.Ok) (hn : p.known ≠ []) {a b : Nat} (ha : a < 6) (hb : b < 6) :
    (∀ c ∈ p.comps, ∀ x, p.Tr c x → (p.differA a b).1 ≤ x a - x b ∧ x a - x b ≤ (p.differA a b).2) ∧ (p.some_ fun _ x => x a - x b = (p.differA a b).1) ∧ p.some_ fun _ x => x a - x b = (p.differA a b).2 := by
  have hl : (p.known.map fun k => (-k.2 b a, k.2 a b)) ≠ [] := by simpa using hn
  have hbd : ∀ t ∈ (p.known.map fun k => (-k.2 b a, k.2 a b)), t.1 ≤ 9223372036854775807 ∧ -9223372036854775808 ≤ t.2 := by
    intro t ht
    obtain ⟨k, hk, rfl⟩ := List.mem_map.1 ht
    obtain ⟨_, h2⟩ := Prn.mem_known.1 hk
    obtain ⟨d, s, _⟩ := Prn.left_some hp h2
    have h3 := Gp.low d s hb ha
    have h4 := Gp.low d s ha hb
    dsimp only
    omega
  obtain ⟨h1, h2, h3⟩ := hull_is hl hbd
  refine ⟨fun c hc x hx => ?_, ?_, ?_⟩
  · obtain ⟨g, hg⟩ := Option.isSome_iff_exists.1 ((Prn.left_is hp c).2 ⟨x, hx⟩)
    have h4 := h1 (-g b a, g a b) (List.mem_map.2 ⟨(c, g), Prn.mem_known.2 ⟨hc, hg⟩, rfl⟩)
    have h5 := (Prn.differ_is hp hg ha hb).1 x hx
    unfold Prn.differA
    dsimp only at h4
    omega
  · obtain ⟨t, ht, e⟩ := h2
    obtain ⟨k, hk, rfl⟩ := List.mem_map.1 ht
    obtain ⟨k1, k2⟩ := Prn.mem_known.1 hk
    obtain ⟨x, hx, ex⟩ := (Prn.differ_is hp k2 ha hb).2.2
    exact ⟨k.1, k1, x, hx, ex.trans e.symm⟩
  · obtain ⟨t, ht, e⟩ := h3
    obtain ⟨k, hk, rfl⟩ := List.mem_map.1 ht
    obtain ⟨k1, k2⟩ := Prn.mem_known.1 hk
    obtain ⟨x, hx, ex⟩ := (Prn.differ_is hp k2 ha hb).2.1
    exact ⟨k.1, k1, x, hx, ex.trans e.symm⟩
/-- What the comparator shows of equal blocks, by all truths. -/
def Prn.showsA (p : Prn) (m : Int) : Int × Int := hullS hull0 (p.known.map fun k => (shw k.1 m, shw k.1 m))
/-- A hull hangs on what is in it alone. -/
theorem hull_unique {l : List (Int × Int)} {s : Int × Int} (hn : l ≠ []) (hb : ∀ t ∈ l, t.1 ≤ 9223372036854775807 ∧ -9223372036854775808 ≤ t.2) (h1 : ∀ t ∈ l, s.1 ≤ t.1 ∧ t.2 ≤ s.2) (h2 : ∃ t ∈ l, s.1 = t.1) (h3 : ∃ t ∈ l, s.2 = t.2) : hullS hull0 l = s := by
  obtain ⟨g1, ⟨t, ht, e⟩, ⟨u, hu, f⟩⟩ := hull_is hn hb
  obtain ⟨t', ht', e'⟩ := h2
  obtain ⟨u', hu', f'⟩ := h3
  have a1 := g1 t' ht'
  have a2 := g1 u' hu'
  have b1 := h1 t ht
  have b2 := h1 u hu
  refine Prod.ext ?_ ?_
  · omega
  · omega
end Go.Proofs.Ytmiobcnccbfknaa
