/-
  FringeClash, its numbers: which sets of readings agree; the sets in their order; what Wrong and Clash answer.
-/
import Derived.Test.YtoidnbpbeblokaaXd
import Derived.Test.YtoidnbpbeblokaaWr
namespace Go.Proofs.Ytoidnbpbeblokaa

theorem wo_eq (gs : List Rg) (s : Nat) : wo gs s = ((List.range gs.length).filter (fun i => !hasB s i)).map (fun i => gs[i]?.getD (0, 0, 0)) := by
  simp [wo, keptTo, List.range_eq_range']
theorem mem_wo {gs : List Rg} {s : Nat} {g : Rg} : g ∈ wo gs s ↔ ∃ i, i < gs.length ∧ hasB s i = false ∧ gs[i]?.getD (0, 0, 0) = g := by
  rw [wo_eq, List.mem_map]
  constructor
  · rintro ⟨i, hi, e⟩
    rw [List.mem_filter, List.mem_range] at hi
    exact ⟨i, hi.1, by simpa using hi.2, e⟩
  · rintro ⟨i, h1, h2, e⟩
    exact ⟨i, by rw [List.mem_filter, List.mem_range]; exact ⟨h1, by simp [h2]⟩, e⟩
theorem agreeW_iff (F : Fr) (hok : F.ok = true) (x : Nat) : F.agreeW x = true ↔ ∃ n : Nat, F.lo ≤ n ∧ n ≤ F.hi ∧ ∀ g ∈ wo F.gs x, rightB g n = true := by
  obtain ⟨l1, l2, l3, l4⟩ := F.len_in hok
  unfold Fr.agreeW agreeB lens
  rw [Bool.not_eq_true', List.isEmpty_eq_false_iff]
  constructor
  · intro h
    obtain ⟨y, hy⟩ := List.exists_mem_of_ne_nil _ h
    obtain ⟨h1, h2, h3⟩ := mem_lensTo.1 hy
    exact ⟨y.val, by omega, by omega, List.all_eq_true.1 h3⟩
  · rintro ⟨n, h1, h2, h3⟩
    have hm : (⟨n, by omega⟩ : Ln) ∈ lensTo F.lo.toNat (wo F.gs x) (F.hi.toNat + 1 - F.lo.toNat) := mem_lensTo.2 ⟨by dsimp only; omega, by dsimp only; omega, List.all_eq_true.2 h3⟩
    exact List.ne_nil_of_mem hm
theorem agree_mono {F : Fr} (hok : F.ok = true) {x y : Nat} (h : ∀ i, i < F.gs.length → hasB x i = true → hasB y i = true) (hx : F.agreeW x = true) : F.agreeW y = true := by
  rw [agreeW_iff F hok] at hx ⊢
  obtain ⟨n, h1, h2, h3⟩ := hx
  refine ⟨n, h1, h2, fun g hg => h3 g ?_⟩
  obtain ⟨i, hi, hh, e⟩ := mem_wo.1 hg
  refine mem_wo.2 ⟨i, hi, ?_, e⟩
  cases hb : hasB x i with
  | false => rfl
  | true => rw [h i hi hb] at hh; cases hh

theorem bits_cm : ∀ n : Nat, n < 7 → ∀ s : Nat, s < 64 → s < 2 ^ n → ∀ i : Nat, i < 6 → i < n → hasB (cm (2 ^ n - 1) s) i = !hasB s i := by decide +kernel
theorem bits_full : ∀ n : Nat, n < 7 → ∀ i : Nat, i < 6 → i < n → hasB (2 ^ n - 1) i = true := by decide +kernel
theorem bits_cc : ∀ n : Nat, n < 7 → ∀ s : Nat, s < 64 → s < 2 ^ n → cm (2 ^ n - 1) (cm (2 ^ n - 1) s) = s ∧ cm (2 ^ n - 1) s < 2 ^ n ∧ cm (2 ^ n - 1) 0 = 2 ^ n - 1 ∧ cm (2 ^ n - 1) (2 ^ n - 1) = 0 := by decide +kernel
theorem bits_pop : ∀ n : Nat, n < 7 → ∀ s : Nat, s < 64 → s < 2 ^ n → pop s ≤ n := by decide +kernel
theorem bits_zero : ∀ i : Nat, i < 6 → hasB 0 i = false := by decide +kernel
theorem bits_pop0 : ∀ s : Nat, s < 64 → pop s ≤ 6 ∧ (pop s = 0 ↔ s = 0) := by decide +kernel
theorem bits_less : ∀ s : Nat, s < 64 → ∀ i : Nat, i < 6 → hasB s i = true → pop (cm s (2 ^ i)) < pop s ∧ cm s (2 ^ i) ≤ s := by decide +kernel
theorem bits_apart : ∀ s : Nat, s < 64 → ∀ o : Nat, o < 64 → s &&& o = 0 → ∀ i : Nat, i < 6 → hasB o i = true → hasB s i = false := by decide +kernel

/-- The order of the sets: fewer readings first, then the lesser number. -/
def Sooner (a b : Nat) : Prop := pop a < pop b ∨ (pop a = pop b ∧ a < b)
theorem sizeTo_facts (c k : Nat) (hk : k ≤ 64) : (sizeTo c k).Pairwise (fun a b => a.val < b.val) ∧ ∀ x : St, x ∈ sizeTo c k ↔ x.val < k ∧ pop x.val = c := by
  induction k with
  | zero => rw [sizeTo_zero]; exact ⟨List.Pairwise.nil, fun x => by simp⟩
  | succ k ih =>
    obtain ⟨i1, i2⟩ := ih (by omega)
    by_cases hp : pop k = c
    · rw [sizeTo_yes (by omega) hp]
      refine ⟨?_, fun x => ?_⟩
      · rw [List.pairwise_append]
        refine ⟨i1, List.pairwise_singleton _ _, fun a ha b hb => ?_⟩
        rw [List.mem_singleton.1 hb]
        exact ((i2 a).1 ha).1
      · rw [List.mem_append, i2, List.mem_singleton]
        constructor
        · rintro (h | rfl)
          · exact ⟨by omega, h.2⟩
          · exact ⟨by simp, hp⟩
        · rintro ⟨h1, h2⟩
          by_cases e : x.val = k
          · right; exact Fin.ext e
          · left; exact ⟨by omega, h2⟩
    · rw [sizeTo_no (by omega) hp]
      refine ⟨i1, fun x => ?_⟩
      rw [i2]
      constructor
      · rintro ⟨h1, h2⟩; exact ⟨by omega, h2⟩
      · rintro ⟨h1, h2⟩
        refine ⟨?_, h2⟩
        by_cases e : x.val = k
        · rw [e] at h2; exact absurd h2 hp
        · omega
theorem setsTo_facts (m c : Nat) (hm : m ≤ 6) : (setsTo m c).Pairwise (fun a b => Sooner a.val b.val) ∧ ∀ x : St, x ∈ setsTo m c ↔ x.val < 2 ^ m ∧ pop x.val < c := by
  have h64 : 2 ^ m ≤ 64 := by have := Nat.pow_le_pow_right (n := 2) (by omega) hm; simpa using this
  induction c with
  | zero => rw [setsTo_zero]; exact ⟨List.Pairwise.nil, fun x => by simp⟩
  | succ c ih =>
    obtain ⟨i1, i2⟩ := ih
    obtain ⟨s1, s2⟩ := sizeTo_facts c (2 ^ m) h64
    rw [setsTo_succ]
    refine ⟨?_, fun x => ?_⟩
    · rw [List.pairwise_append]
      refine ⟨i1, s1.imp_of_mem fun ha hb h => ?_, fun a ha b hb => ?_⟩
      · exact .inr ⟨by rw [((s2 _).1 ha).2, ((s2 _).1 hb).2], h⟩
      · have h1 := ((i2 a).1 ha).2
        have h2 := ((s2 b).1 hb).2
        exact .inl (by omega)
    · rw [List.mem_append, i2, s2]
      constructor
      · rintro (⟨h1, h2⟩ | ⟨h1, h2⟩)
        · exact ⟨h1, by omega⟩
        · exact ⟨h1, by omega⟩
      · rintro ⟨h1, h2⟩
        by_cases e : pop x.val = c
        · exact .inr ⟨h1, e⟩
        · exact .inl ⟨h1, by omega⟩
theorem mem_sets {m : Nat} (hm : m ≤ 6) {x : St} : x ∈ sets m ↔ x.val < 2 ^ m := by
  rw [sets, (setsTo_facts m (m + 1) hm).2]
  exact ⟨fun h => h.1, fun h => ⟨h, by have := bits_pop m (by omega) x.val x.isLt h; omega⟩⟩
theorem find_sooner {α : Type} {R : α → α → Prop} {p : α → Bool} : ∀ {l : List α}, l.Pairwise R → ∀ {x : α}, l.find? p = some x → ∀ {y : α}, y ∈ l → p y = true → x = y ∨ R x y
  | [], _, _, h, _, _, _ => by cases h
  | a :: l, hl, x, h, y, hy, hp => by
    rw [List.pairwise_cons] at hl
    rw [List.find?_cons] at h
    cases hpa : p a with
    | true =>
      rw [hpa] at h
      obtain rfl : a = x := by simpa using h
      rcases List.mem_cons.1 hy with rfl | hy
      · exact .inl rfl
      · exact .inr (hl.1 y hy)
    | false =>
      rw [hpa] at h
      rcases List.mem_cons.1 hy with rfl | hy
      · rw [hpa] at hp; cases hp
      · exact find_sooner hl.2 h hy hp

/-- Fewer readings, or as many and no greater number. -/
def NoLater (a b : Nat) : Prop := pop a < pop b ∨ (pop a = pop b ∧ a ≤ b)
theorem find_facts (m : Nat) (hm : m ≤ 6) (p : St → Bool) {x : St} (h : (sets m).find? p = some x) : p x = true ∧ x.val < 2 ^ m ∧ ∀ y : St, y.val < 2 ^ m → p y = true → NoLater x.val y.val := by
  refine ⟨List.find?_some h, (mem_sets hm).1 (List.mem_of_find?_eq_some h), fun y hy hp => ?_⟩
  rcases find_sooner (setsTo_facts m (m + 1) hm).1 h ((mem_sets hm).2 hy) hp with rfl | h' | h'
  · exact .inr ⟨rfl, Nat.le_refl _⟩
  · exact .inl h'
  · exact .inr ⟨h'.1, Nat.le_of_lt h'.2⟩
theorem pow_le (F : Fr) (hok : F.ok = true) : 2 ^ F.gs.length ≤ 64 := by
  have := Nat.pow_le_pow_right (n := 2) (by omega) (F.gl_in hok)
  simpa using this
theorem agree_full (F : Fr) (hok : F.ok = true) : F.agreeW (2 ^ F.gs.length - 1) = true := by
  have hl := F.gl_in hok
  obtain ⟨l1, l2, l3, l4⟩ := F.len_in hok
  rw [agreeW_iff F hok]
  refine ⟨F.lo.toNat, by omega, by omega, fun g hg => ?_⟩
  obtain ⟨i, hi, hh, _⟩ := mem_wo.1 hg
  rw [bits_full _ (by omega) i (by omega) hi] at hh
  cases hh
theorem wrong_facts (F : Fr) (hok : F.ok = true) : setOf F.wrong < 2 ^ F.gs.length ∧ F.agreeW (setOf F.wrong) = true ∧ ∀ y, y < 2 ^ F.gs.length → F.agreeW y = true → NoLater (setOf F.wrong) y := by
  have hl := F.gl_in hok
  have h64 := pow_le F hok
  have hpos : 0 < 2 ^ F.gs.length := Nat.pow_pos (by omega)
  have hs : F.wrong.isSome = true := by
    unfold Fr.wrong
    rw [List.find?_isSome]
    exact ⟨(⟨2 ^ F.gs.length - 1, by omega⟩ : St), (mem_sets hl).2 (by dsimp only; omega), agree_full F hok⟩
  obtain ⟨x, hx⟩ := Option.isSome_iff_exists.1 hs
  obtain ⟨f1, f2, f3⟩ := find_facts _ hl _ hx
  rw [hx]
  exact ⟨f2, f1, fun y hy hp => f3 (⟨y, by omega⟩ : St) hy hp⟩
theorem clash_none (F : Fr) (hok : F.ok = true) (h : F.clash = none) : F.agreeW 0 = true := by
  have hl := F.gl_in hok
  have h64 := pow_le F hok
  have hpos : 0 < 2 ^ F.gs.length := Nat.pow_pos (by omega)
  have h1 := List.find?_eq_none.1 h (⟨2 ^ F.gs.length - 1, by omega⟩ : St) ((mem_sets hl).2 (by dsimp only; omega))
  dsimp only at h1
  rw [(bits_cc _ (by omega) (2 ^ F.gs.length - 1) (by omega) (by omega)).2.2.2] at h1
  simpa using h1
theorem clash_some (F : Fr) (hok : F.ok = true) {x : St} (h : F.clash = some x) : F.agreeW (cm (2 ^ F.gs.length - 1) x.val) = false ∧ x.val < 2 ^ F.gs.length ∧ ∀ y, y < 2 ^ F.gs.length → F.agreeW (cm (2 ^ F.gs.length - 1) y) = false → NoLater x.val y := by
  have h64 := pow_le F hok
  obtain ⟨f1, f2, f3⟩ := find_facts _ (F.gl_in hok) _ h
  exact ⟨by simpa using f1, f2, fun y hy hp => f3 (⟨y, by omega⟩ : St) hy (by simpa using hp)⟩
/-- If all readings agree, each set of them does. -/
theorem agree_any0 (F : Fr) (hok : F.ok = true) (h : F.agreeW 0 = true) (x : Nat) : F.agreeW x = true :=
  agree_mono hok (fun i hi hb => by have := F.gl_in hok; rw [bits_zero i (by omega)] at hb; cases hb) h
theorem clash_is_none (F : Fr) (hok : F.ok = true) (h : F.agreeW 0 = true) : F.clash = none :=
  List.find?_eq_none.2 fun x _ => by simp [agree_any0 F hok h]
/-- The first k readings that are in a set. -/
def selR (rs : List Rd) (s k : Nat) : List Rd := ((List.range k).filter (hasB s)).map (fun i => rs[i]?.getD (0, 0, 0))
theorem selR_in {rs : List Rd} {s k : Nat} (h : hasB s k = true) : selR rs s (k + 1) = selR rs s k ++ [rs[k]?.getD (0, 0, 0)] := by
  simp [selR, List.range_succ, List.filter_append, h]
theorem selR_out {rs : List Rd} {s k : Nat} (h : hasB s k = false) : selR rs s (k + 1) = selR rs s k := by
  simp [selR, List.range_succ, List.filter_append, h]
theorem selR_len (rs : List Rd) (s k : Nat) : (selR rs s k).length ≤ k := by
  have := List.length_filter_le (hasB s) (List.range k)
  simpa [selR] using this
end Go.Proofs.Ytoidnbpbeblokaa
