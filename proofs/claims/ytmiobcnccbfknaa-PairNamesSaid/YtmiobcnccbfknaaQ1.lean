/-
  PAIR: numbers. Bounds between places that are complete: what one more bound makes of them, and what is so in each, and in some, way to lay the places.
-/
namespace Go.Proofs.Ytmiobcnccbfknaa

/-- By how much a place can be greater than another one, at most. -/
abbrev Gp := Nat → Nat → Int
/-- No bound follows from others that is not there; n places. -/
structure Gp.Done (n : Nat) (g : Gp) : Prop where
  own : ∀ i, i < n → g i i = 0
  way : ∀ i j k, i < n → j < n → k < n → g i j ≤ g i k + g k j
/-- A way to lay the places. -/
def Gp.Lays (n : Nat) (g : Gp) (x : Nat → Int) : Prop := ∀ i j, i < n → j < n → x i - x j ≤ g i j
/-- The bounds with one more: a is greater than b by m, at most. -/
def Gp.lim (g : Gp) (a b : Nat) (m : Int) : Gp := fun i j => min (g i j) (g i a + m + g b j)

theorem Gp.lim_done {n : Nat} {g : Gp} (h : g.Done n) {a b : Nat} (ha : a < n) (hb : b < n) {m : Int} (hm : 0 ≤ m + g b a) : (g.lim a b m).Done n := by
  refine ⟨fun i hi => ?_, fun i j k hi hj hk => ?_⟩
  · have h0 := h.own i hi
    have h1 := h.way b a i hb ha hi
    show min (g i i) (g i a + m + g b i) = 0
    omega
  · have w1 := h.way i j k hi hj hk
    have w2 := h.way i a k hi ha hk
    have w3 := h.way b j k hb hj hk
    have w4 := h.way b a k hb ha hk
    show min (g i j) (g i a + m + g b j) ≤ min (g i k) (g i a + m + g b k) + min (g k j) (g k a + m + g b j)
    omega
theorem Gp.lim_lays {n : Nat} {g : Gp} (h : g.Done n) {a b : Nat} (ha : a < n) (hb : b < n) {m : Int} {x : Nat → Int} : (g.lim a b m).Lays n x ↔ g.Lays n x ∧ x a - x b ≤ m := by
  constructor
  · intro hx
    refine ⟨fun i j hi hj => Int.le_trans (hx i j hi hj) (Int.min_le_left _ _), ?_⟩
    have h1 : x a - x b ≤ min (g a b) (g a a + m + g b b) := hx a b ha hb
    have h2 := h.own a ha
    have h3 := h.own b hb
    omega
  · intro ⟨hx, hm⟩ i j hi hj
    have h1 := hx i j hi hj
    have h2 := hx i a hi ha
    have h3 := hx b j hb hj
    show x i - x j ≤ min (g i j) (g i a + m + g b j)
    omega
/-- A bound that is too low leaves no way to lay the places. -/
theorem Gp.lim_none {n : Nat} {g : Gp} {a b : Nat} (ha : a < n) (hb : b < n) {m : Int} (hm : m + g b a < 0) {x : Nat → Int} (hx : g.Lays n x) : ¬ x a - x b ≤ m := by
  have h1 := hx b a hb ha
  omega
/-- Where a row is passed over, and where it is gone through: either way it is that of the bounds with one more. -/
theorem Gp.lim_over {n : Nat} {g : Gp} (h : g.Done n) {a b i j : Nat} (hb : b < n) (hi : i < n) (hj : j < n) {m : Int} (hw : g i b ≤ g i a + m) : g.lim a b m i j = g i j := by
  have h1 := h.way i j b hi hj hb
  show min (g i j) (g i a + m + g b j) = g i j
  omega
/-- The row b itself is passed over. -/
theorem Gp.lim_row {n : Nat} {g : Gp} (h : g.Done n) {a b : Nat} (hb : b < n) {m : Int} (hm : 0 ≤ m + g b a) : g b b ≤ g b a + m := by
  have h1 := h.own b hb
  omega
/-- Each bound is reached, and the mark lies where it is wanted. -/
theorem Gp.reached {n : Nat} {g : Gp} (h : g.Done n) {a b : Nat} (hb : b < n) (c : Int) (k : Nat) : ∃ x, g.Lays n x ∧ x k = c ∧ x a - x b = g a b := by
  refine ⟨fun i => g i b - g k b + c, fun i j hi hj => ?_, by show g k b - g k b + c = c; omega, ?_⟩
  · have h1 := h.way i b j hi hb hj
    show g i b - g k b + c - (g j b - g k b + c) ≤ g i j
    omega
  · have h1 := h.own b hb
    show g a b - g k b + c - (g b b - g k b + c) = g a b
    omega
/-- A place that may be the greatest: all at once. -/
theorem Gp.top {n : Nat} {g : Gp} (h : g.Done n) {a : Nat} (ha : a < n) (P : Nat → Prop) (c : Int) (k : Nat) : (∃ x, g.Lays n x ∧ x k = c ∧ ∀ o, o < n → P o → x o ≤ x a) ↔ ∀ o, o < n → P o → 0 ≤ g a o := by
  constructor
  · rintro ⟨x, hx, _, ht⟩ o ho po
    have h1 := hx a o ha ho
    have h2 := ht o ho po
    omega
  · intro hg
    refine ⟨fun i => g a k - g a i + c, fun i j hi hj => ?_, by show g a k - g a k + c = c; omega, fun o ho po => ?_⟩
    · have h1 := h.way a j i ha hj hi
      show g a k - g a i + c - (g a k - g a j + c) ≤ g i j
      omega
    · have h1 := hg o ho po
      have h2 := h.own a ha
      show g a k - g a o + c ≤ g a k - g a a + c
      omega
/-- A place that surely is the greatest. -/
theorem Gp.sure {n : Nat} {g : Gp} (h : g.Done n) {a : Nat} (ha : a < n) (P : Nat → Prop) (c : Int) (k : Nat) : (∀ x, g.Lays n x → x k = c → ∀ o, o < n → P o → x o ≤ x a) ↔ ∀ o, o < n → P o → g o a ≤ 0 := by
  constructor
  · intro hx o ho po
    obtain ⟨x, h1, h2, h3⟩ := Gp.reached h (a := o) ha c k
    have h4 := hx x h1 h2 o ho po
    omega
  · intro hg x hx _ o ho po
    have h1 := hx o a ho ha
    have h2 := hg o ho po
    omega
/-- What is not known of n - 1 places but that each is within d of the last one. -/
def Gp.free (n : Nat) (d : Int) : Gp := fun i j => if i = j then 0 else if i = n ∨ j = n then d else 2 * d
theorem Gp.free_done {n : Nat} {d : Int} (hd : 0 ≤ d) : (Gp.free n d).Done (n + 1) := by
  refine ⟨fun i _ => if_pos rfl, fun i j k hi hj hk => ?_⟩
  unfold Gp.free
  by_cases h1 : i = j <;> by_cases h2 : i = k <;> by_cases h3 : k = j <;> by_cases h4 : i = n <;> by_cases h5 : j = n <;> by_cases h6 : k = n <;> simp [h1, h2, h3, h4, h5, h6] <;> (try omega) <;> (split <;> (try omega) <;> (try split) <;> (try omega) <;> (try split) <;> omega)
theorem Gp.free_lays {n : Nat} {d : Int} {x : Nat → Int} : (Gp.free n d).Lays (n + 1) x ↔ ∀ i, i < n → x i - x n ≤ d ∧ x n - x i ≤ d := by
  constructor
  · intro h i hi
    have h1 := h i n (by omega) (by omega)
    have h2 := h n i (by omega) (by omega)
    unfold Gp.free at h1 h2
    rw [if_neg (by omega), if_pos (.inr rfl)] at h1
    rw [if_neg (by omega), if_pos (.inl rfl)] at h2
    exact ⟨h1, h2⟩
  · intro h i j hi hj
    unfold Gp.free
    by_cases e : i = j
    · subst e
      rw [if_pos rfl]
      omega
    · rw [if_neg e]
      by_cases e1 : i = n
      · subst e1
        rw [if_pos (.inl rfl)]
        exact (h j (by omega)).2
      · by_cases e2 : j = n
        · subst e2
          rw [if_pos (.inr rfl)]
          exact (h i (by omega)).1
        · rw [if_neg (by omega)]
          have h1 := h i (by omega)
          have h2 := h j (by omega)
          omega
/-- One reading more: the difference of a and b lies from lo to hi; none: it cannot. -/
def Gp.put (g : Gp) (a b : Nat) (lo hi : Int) : Option Gp :=
  if hi + g b a < 0 then none else if -lo + g.lim a b hi a b < 0 then none else some ((g.lim a b hi).lim b a (-lo))
theorem Gp.put_some {n : Nat} {g g' : Gp} (h : g.Done n) {a b : Nat} (ha : a < n) (hb : b < n) {lo hi : Int} (e : g.put a b lo hi = some g') : g'.Done n ∧ ∀ x, g'.Lays n x ↔ g.Lays n x ∧ lo ≤ x a - x b ∧ x a - x b ≤ hi := by
  unfold Gp.put at e
  split at e
  · cases e
  · rename_i h1
    split at e
    · cases e
    · rename_i h2
      have d1 := Gp.lim_done h ha hb (m := hi) (by omega)
      cases e
      refine ⟨Gp.lim_done d1 hb ha (by omega), fun x => ?_⟩
      rw [Gp.lim_lays d1 hb ha, Gp.lim_lays h ha hb]
      constructor
      · rintro ⟨⟨l1, l2⟩, l3⟩
        exact ⟨l1, by omega, l2⟩
      · rintro ⟨l1, l2, l3⟩
        exact ⟨⟨l1, l3⟩, by omega⟩
theorem Gp.put_none {n : Nat} {g : Gp} (h : g.Done n) {a b : Nat} (ha : a < n) (hb : b < n) {lo hi : Int} (e : g.put a b lo hi = none) {x : Nat → Int} (hx : g.Lays n x) : ¬ (lo ≤ x a - x b ∧ x a - x b ≤ hi) := by
  unfold Gp.put at e
  rintro ⟨l1, l2⟩
  split at e
  · rename_i h1
    exact Gp.lim_none ha hb h1 hx l2
  · rename_i h1
    split at e
    · rename_i h2
      exact Gp.lim_none hb ha h2 ((Gp.lim_lays h ha hb).2 ⟨hx, l2⟩) (by omega)
    · cases e
/-- No bound is greater than d. -/
def Gp.Small (n : Nat) (d : Int) (g : Gp) : Prop := ∀ i j, i < n → j < n → g i j ≤ d
theorem Gp.Small.lim {n : Nat} {d : Int} {g : Gp} (h : g.Small n d) (a b : Nat) (m : Int) : (g.lim a b m).Small n d := fun i j hi hj => Int.le_trans (Int.min_le_left _ _) (h i j hi hj)
theorem Gp.Small.put {n : Nat} {d : Int} {g g' : Gp} (h : g.Small n d) {a b : Nat} {lo hi : Int} (e : g.put a b lo hi = some g') : g'.Small n d := by
  unfold Gp.put at e
  split at e
  · cases e
  · split at e
    · cases e
    · cases e
      exact (h.lim _ _ _).lim _ _ _
theorem Gp.low {n : Nat} {d : Int} {g : Gp} (h : g.Done n) (hs : g.Small n d) {i j : Nat} (hi : i < n) (hj : j < n) : -d ≤ g i j := by
  have h1 := h.way i i j hi hi hj
  have h2 := h.own i hi
  have h3 := hs j i hj hi
  omega
/-- Readings: two places, and from where to where they differ. -/
abbrev Bd := Nat × Nat × Int × Int
def Bd.Has (x : Nat → Int) (r : Bd) : Prop := r.2.2.1 ≤ x r.1 - x r.2.1 ∧ x r.1 - x r.2.1 ≤ r.2.2.2
def Gp.puts (g : Gp) : List Bd → Option Gp
  | [] => some g
  | r :: l => (g.put r.1 r.2.1 r.2.2.1 r.2.2.2).bind fun g' => g'.puts l
theorem Gp.puts_some {n : Nat} : ∀ {l : List Bd} {g g' : Gp}, g.Done n → (∀ r ∈ l, r.1 < n ∧ r.2.1 < n) → g.puts l = some g' → g'.Done n ∧ ∀ x, g'.Lays n x ↔ g.Lays n x ∧ ∀ r ∈ l, Bd.Has x r
  | [], g, g', h, _, e => by
    cases e
    exact ⟨h, fun x => by simp⟩
  | r :: l, g, g', h, hl, e => by
    unfold Gp.puts at e
    cases e1 : g.put r.1 r.2.1 r.2.2.1 r.2.2.2 with
    | none =>
      rw [e1] at e
      cases e
    | some g1 =>
      rw [e1] at e
      obtain ⟨d1, x1⟩ := Gp.put_some h (hl r List.mem_cons_self).1 (hl r List.mem_cons_self).2 e1
      obtain ⟨d2, x2⟩ := Gp.puts_some d1 (fun r hr => hl r (List.mem_cons_of_mem _ hr)) e
      refine ⟨d2, fun x => ?_⟩
      rw [x2, x1]
      constructor
      · rintro ⟨⟨l1, l2⟩, l3⟩
        exact ⟨l1, fun q hq => by exact (List.mem_cons.1 hq).elim (fun e => e ▸ l2) (l3 q)⟩
      · rintro ⟨l1, l2⟩
        exact ⟨⟨l1, l2 r List.mem_cons_self⟩, fun q hq => l2 q (List.mem_cons_of_mem _ hq)⟩
theorem Gp.puts_none {n : Nat} : ∀ {l : List Bd} {g : Gp}, g.Done n → (∀ r ∈ l, r.1 < n ∧ r.2.1 < n) → g.puts l = none → ∀ x, g.Lays n x → ¬ ∀ r ∈ l, Bd.Has x r
  | [], _, _, _, e => by cases e
  | r :: l, g, h, hl, e => by
    intro x hx hr
    unfold Gp.puts at e
    cases e1 : g.put r.1 r.2.1 r.2.2.1 r.2.2.2 with
    | none => exact Gp.put_none h (hl r List.mem_cons_self).1 (hl r List.mem_cons_self).2 e1 hx (hr r List.mem_cons_self)
    | some g1 =>
      rw [e1] at e
      obtain ⟨d1, x1⟩ := Gp.put_some h (hl r List.mem_cons_self).1 (hl r List.mem_cons_self).2 e1
      exact Gp.puts_none d1 (fun r hr => hl r (List.mem_cons_of_mem _ hr)) e x ((x1 x).2 ⟨hx, hr r List.mem_cons_self⟩) (fun q hq => hr q (List.mem_cons_of_mem _ hq))
theorem Gp.puts_is {n : Nat} {l : List Bd} {g : Gp} (h : g.Done n) (hl : ∀ r ∈ l, r.1 < n ∧ r.2.1 < n) (c : Int) (k : Nat) (hk : k < n) : (g.puts l).isSome = true ↔ ∃ x, g.Lays n x ∧ x k = c ∧ ∀ r ∈ l, Bd.Has x r := by
  cases e : g.puts l with
  | none =>
    constructor
    · intro h
      cases h
    · rintro ⟨x, h1, _, h3⟩
      exact (Gp.puts_none h hl e x h1 h3).elim
  | some g' =>
    obtain ⟨d, hx⟩ := Gp.puts_some h hl e
    obtain ⟨x, h1, h2, _⟩ := Gp.reached d (a := k) hk c k
    exact ⟨fun _ => ⟨x, ((hx x).1 h1).1, h2, ((hx x).1 h1).2⟩, fun _ => rfl⟩
theorem Gp.puts_append (g : Gp) : ∀ (l l' : List Bd), g.puts (l ++ l') = (g.puts l).bind fun g' => g'.puts l'
  | [], _ => rfl
  | r :: l, l' => by
    show (g.put r.1 r.2.1 r.2.2.1 r.2.2.2).bind (fun g' => g'.puts (l ++ l')) = ((g.put r.1 r.2.1 r.2.2.1 r.2.2.2).bind fun g' => g'.puts l).bind fun g' => g'.puts l'
    cases g.put r.1 r.2.1 r.2.2.1 r.2.2.2 with
    | none => rfl
    | some g1 => exact Gp.puts_append g1 l l'
theorem Gp.Small.puts {n : Nat} {d : Int} : ∀ {l : List Bd} {g g' : Gp}, g.Small n d → g.puts l = some g' → g'.Small n d
  | [], _, _, h, e => by
    cases e
    exact h
  | r :: l, g, g', h, e => by
    unfold Gp.puts at e
    cases e1 : g.put r.1 r.2.1 r.2.2.1 r.2.2.2 with
    | none =>
      rw [e1] at e
      cases e
    | some g1 =>
      rw [e1] at e
      exact (h.put e1).puts e
end Go.Proofs.Ytmiobcnccbfknaa
