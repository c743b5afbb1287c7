/-
  PAIR: numbers. Bounds between places that are complete: what one more bound makes of them, and what is so in each, and in some, way to lay the places.
  PAIR: a pair as numbers: its comparators, what blocks can differ by with each, and its truths.
  PAIR: what is told of all truths: hulls, in whatever order the comparators come.
  PAIR: sets of readings: the fewest that must be wrong, and the fewest that clash.
  PAIR: which blocks are longest, and which two are known least of one another.
  PAIR: groups of blocks that hang together by what was read.
  PAIR: one bound more, put in row by row and number by number, in place.
-/
namespace Go.Proofs.Ythnhcacoegmdfaa

/-- By how much a place can be greater than another one, at most. -/
abbrev Gp := Nat → Nat → Int
/-- No bound follows from others that is not there; n places. -/
structure Gp.Done (n : Nat) (g : Gp) : Prop where
  own : ∀ i, i < n → g i i = 0
  way : ∀ i j k, i < n → j < n → k < n → g i j ≤ g i k + g k j
/-- A way to lay the places. -/
def Gp.Lays (n : Nat) (g : Gp) (x : Nat → Int) : Prop := ∀ i j, i < n → j < n → x i - x j ≤ g i j
/-- The bounds with one more: a is greater than b by m, at most. -/
def Gp.lim (g : Gp) (a b : Nat) (m : Int) : Gp := fun i j => min (g i j) (g i a + m + g b j)

theorem Gp.lim_done {n : Nat} {g : Gp} (h : g.Done n) {a b : Nat} (ha : a < n) (hb : b < n) {m : Int} (hm : 0 ≤ m + g b a) : (g.lim a b m).Done n := by
  refine ⟨fun i hi => ?_, fun i j k hi hj hk => ?_⟩
  · have h0 := h.own i hi
    have h1 := h.way b a i hb ha hi
    show min (g i i) (g i a + m + g b i) = 0
    omega
  · have w1 := h.way i j k hi hj hk
    have w2 := h.way i a k hi ha hk
    have w3 := h.way b j k hb hj hk
    have w4 := h.way b a k hb ha hk
    show min (g i j) (g i a + m + g b j) ≤ min (g i k) (g i a + m + g b k) + min (g k j) (g k a + m + g b j)
    omega
theorem Gp.lim_lays {n : Nat} {g : Gp} (h : g.Done n) {a b : Nat} (ha : a < n) (hb : b < n) {m : Int} {x : Nat → Int} : (g.lim a b m).Lays n x ↔ g.Lays n x ∧ x a - x b ≤ m := by
  constructor
  · intro hx
    refine ⟨fun i j hi hj => Int.le_trans (hx i j hi hj) (Int.min_le_left _ _), ?_⟩
    have h1 : x a - x b ≤ min (g a b) (g a a + m + g b b) := hx a b ha hb
    have h2 := h.own a ha
    have h3 := h.own b hb
    omega
  · intro ⟨hx, hm⟩ i j hi hj
    have h1 := hx i j hi hj
    have h2 := hx i a hi ha
    have h3 := hx b j hb hj
    show x i - x j ≤ min (g i j) (g i a + m + g b j)
    omega
/-- A bound that is too low leaves no way to lay the places. -/
theorem Gp.lim_none {n : Nat} {g : Gp} {a b : Nat} (ha : a < n) (hb : b < n) {m : Int} (hm : m + g b a < 0) {x : Nat → Int} (hx : g.Lays n x) : ¬ x a - x b ≤ m := by
  have h1 := hx b a hb ha
  omega
/-- Where a row is passed over, and where it is gone through: either way it is that of the bounds with one more. -/
theorem Gp.lim_over {n : Nat} {g : Gp} (h : g.Done n) {a b i j : Nat} (hb : b < n) (hi : i < n) (hj : j < n) {m : Int} (hw : g i b ≤ g i a + m) : g.lim a b m i j = g i j := by
  have h1 := h.way i j b hi hj hb
  show min (g i j) (g i a + m + g b j) = g i j
  omega
/-- The row b itself is passed over. -/
theorem Gp.lim_row {n : Nat} {g : Gp} (h : g.Done n) {a b : Nat} (hb : b < n) {m : Int} (hm : 0 ≤ m + g b a) : g b b ≤ g b a + m := by
  have h1 := h.own b hb
  omega
/-- Each bound is reached, and the mark lies where it is wanted. -/
theorem Gp.reached {n : Nat} {g : Gp} (h : g.Done n) {a b : Nat} (hb : b < n) (c : Int) (k : Nat) : ∃ x, g.Lays n x ∧ x k = c ∧ x a - x b = g a b := by
  refine ⟨fun i => g i b - g k b + c, fun i j hi hj => ?_, by show g k b - g k b + c = c; omega, ?_⟩
  · have h1 := h.way i b j hi hb hj
    show g i b - g k b + c - (g j b - g k b + c) ≤ g i j
    omega
  · have h1 := h.own b hb
    show g a b - g k b + c - (g b b - g k b + c) = g a b
    omega
/-- A place that may be the greatest: all at once. -/
theorem Gp.top {n : Nat} {g : Gp} (h : g.Done n) {a : Nat} (ha : a < n) (P : Nat → Prop) (c : Int) (k : Nat) : (∃ x, g.Lays n x ∧ x k = c ∧ ∀ o, o < n → P o → x o ≤ x a) ↔ ∀ o, o < n → P o → 0 ≤ g a o := by
  constructor
  · rintro ⟨x, hx, _, ht⟩ o ho po
    have h1 := hx a o ha ho
    have h2 := ht o ho po
    omega
  · intro hg
    refine ⟨fun i => g a k - g a i + c, fun i j hi hj => ?_, by show g a k - g a k + c = c; omega, fun o ho po => ?_⟩
    · have h1 := h.way a j i ha hj hi
      show g a k - g a i + c - (g a k - g a j + c) ≤ g i j
      omega
    · have h1 := hg o ho po
      have h2 := h.own a ha
      show g a k - g a o + c ≤ g a k - g a a + c
      omega
/-- A place that surely is the greatest. -/
theorem Gp.sure {n : Nat} {g : Gp} (h : g.Done n) {a : Nat} (ha : a < n) (P : Nat → Prop) (c : Int) (k : Nat) : (∀ x, g.Lays n x → x k = c → ∀ o, o < n → P o → x o ≤ x a) ↔ ∀ o, o < n → P o → g o a ≤ 0 := by
  constructor
  · intro hx o ho po
    obtain ⟨x, h1, h2, h3⟩ := Gp.reached h (a := o) ha c k
    have h4 := hx x h1 h2 o ho po
    omega
  · intro hg x hx _ o ho po
    have h1 := hx o a ho ha
    have h2 := hg o ho po
    omega
/-- What is not known of n - 1 places but that each is within d of the last one. -/
def Gp.free (n : Nat) (d : Int) : Gp := fun i j => if i = j then 0 else if i = n ∨ j = n then d else 2 * d
theorem Gp.free_done {n : Nat} {d : Int} (hd : 0 ≤ d) : (Gp.free n d).Done (n + 1) := by
  refine ⟨fun i _ => if_pos rfl, fun i j k hi hj hk => ?_⟩
  unfold Gp.free
  by_cases h1 : i = j <;> by_cases h2 : i = k <;> by_cases h3 : k = j <;> by_cases h4 : i = n <;> by_cases h5 : j = n <;> by_cases h6 : k = n <;> simp [h1, h2, h3, h4, h5, h6] <;> (try omega) <;> (split <;> (try omega) <;> (try split) <;> (try omega) <;> (try split) <;> omega)
theorem Gp.free_lays {n : Nat} {d : Int} {x : Nat → Int} : (Gp.free n d).Lays (n + 1) x ↔ ∀ i, i < n → x i - x n ≤ d ∧ x n - x i ≤ d := by
  constructor
  · intro h i hi
    have h1 := h i n (by omega) (by omega)
    have h2 := h n i (by omega) (by omega)
    unfold Gp.free at h1 h2
    rw [if_neg (by omega), if_pos (.inr rfl)] at h1
    rw [if_neg (by omega), if_pos (.inl rfl)] at h2
    exact ⟨h1, h2⟩
  · intro h i j hi hj
    unfold Gp.free
    by_cases e : i = j
    · subst e
      rw [if_pos rfl]
      omega
    · rw [if_neg e]
      by_cases e1 : i = n
      · subst e1
        rw [if_pos (.inl rfl)]
        exact (h j (by omega)).2
      · by_cases e2 : j = n
        · subst e2
          rw [if_pos (.inr rfl)]
          exact (h i (by omega)).1
        · rw [if_neg (by omega)]
          have h1 := h i (by omega)
          have h2 := h j (by omega)
          omega
/-- One reading more: the difference of a and b lies from lo to hi; none: it cannot. -/
def Gp.put (g : Gp) (a b : Nat) (lo hi : Int) : Option Gp :=
  if hi + g b a < 0 then none else if -lo + g.lim a b hi a b < 0 then none else some ((g.lim a b hi).lim b a (-lo))
theorem Gp.put_some {n : Nat} {g g' : Gp} (h : g.Done n) {a b : Nat} (ha : a < n) (hb : b < n) {lo hi : Int} (e : g.put a b lo hi = some g') : g'.Done n ∧ ∀ x, g'.Lays n x ↔ g.Lays n x ∧ lo ≤ x a - x b ∧ x a - x b ≤ hi := by
  unfold Gp.put at e
  split at e
  · cases e
  · rename_i h1
    split at e
    · cases e
    · rename_i h2
      have d1 := Gp.lim_done h ha hb (m := hi) (by omega)
      cases e
      refine ⟨Gp.lim_done d1 hb ha (by omega), fun x => ?_⟩
      rw [Gp.lim_lays d1 hb ha, Gp.lim_lays h ha hb]
      constructor
      · rintro ⟨⟨l1, l2⟩, l3⟩
        exact ⟨l1, by omega, l2⟩
      · rintro ⟨l1, l2, l3⟩
        exact ⟨⟨l1, l3⟩, by omega⟩
theorem Gp.put_none {n : Nat} {g : Gp} (h : g.Done n) {a b : Nat} (ha : a < n) (hb : b < n) {lo hi : Int} (e : g.put a b lo hi = none) {x : Nat → Int} (hx : g.Lays n x) : ¬ (lo ≤ x a - x b ∧ x a - x b ≤ hi) := by
  unfold Gp.put at e
  rintro ⟨l1, l2⟩
  split at e
  · rename_i h1
    exact Gp.lim_none ha hb h1 hx l2
  · rename_i h1
    split at e
    · rename_i h2
      exact Gp.lim_none hb ha h2 ((Gp.lim_lays h ha hb).2 ⟨hx, l2⟩) (by omega)
    · cases e
/-- No bound is greater than d. -/
def Gp.Small (n : Nat) (d : Int) (g : Gp) : Prop := ∀ i j, i < n → j < n → g i j ≤ d
theorem Gp.Small.lim {n : Nat} {d : Int} {g : Gp} (h : g.Small n d) (a b : Nat) (m : Int) : (g.lim a b m).Small n d := fun i j hi hj => Int.le_trans (Int.min_le_left _ _) (h i j hi hj)
theorem Gp.Small.put {n : Nat} {d : Int} {g g' : Gp} (h : g.Small n d) {a b : Nat} {lo hi : Int} (e : g.put a b lo hi = some g') : g'.Small n d := by
  unfold Gp.put at e
  split at e
  · cases e
  · split at e
    · cases e
    · cases e
      exact (h.lim _ _ _).lim _ _ _
theorem Gp.low {n : Nat} {d : Int} {g : Gp} (h : g.Done n) (hs : g.Small n d) {i j : Nat} (hi : i < n) (hj : j < n) : -d ≤ g i j := by
  have h1 := h.way i i j hi hi hj
  have h2 := h.own i hi
  have h3 := hs j i hj hi
  omega
/-- Readings: two places, and from where to where they differ. -/
abbrev Bd := Nat × Nat × Int × Int
def Bd.Has (x : Nat → Int) (r : Bd) : Prop := r.2.2.1 ≤ x r.1 - x r.2.1 ∧ x r.1 - x r.2.1 ≤ r.2.2.2
def Gp.puts (g : Gp) : List Bd → Option Gp
  | [] => some g
  | r :: l => (g.put r.1 r.2.1 r.2.2.1 r.2.2.2).bind fun g' => g'.puts l
theorem Gp.puts_some {n : Nat} : ∀ {l : List Bd} {g g' : Gp}, g.Done n → (∀ r ∈ l, r.1 < n ∧ r.2.1 < n) → g.puts l = some g' → g'.Done n ∧ ∀ x, g'.Lays n x ↔ g.Lays n x ∧ ∀ r ∈ l, Bd.Has x r
  | [], g, g', h, _, e => by
    cases e
    exact ⟨h, fun x => by simp⟩
  | r :: l, g, g', h, hl, e => by
    unfold Gp.puts at e
    cases e1 : g.put r.1 r.2.1 r.2.2.1 r.2.2.2 with
    | none =>
      rw [e1] at e
      cases e
    | some g1 =>
      rw [e1] at e
      obtain ⟨d1, x1⟩ := Gp.put_some h (hl r List.mem_cons_self).1 (hl r List.mem_cons_self).2 e1
      obtain ⟨d2, x2⟩ := Gp.puts_some d1 (fun r hr => hl r (List.mem_cons_of_mem _ hr)) e
      refine ⟨d2, fun x => ?_⟩
      rw [x2, x1]
      constructor
      · rintro ⟨⟨l1, l2⟩, l3⟩
        exact ⟨l1, fun q hq => by exact (List.mem_cons.1 hq).elim (fun e => e ▸ l2) (l3 q)⟩
      · rintro ⟨l1, l2⟩
        exact ⟨⟨l1, l2 r List.mem_cons_self⟩, fun q hq => l2 q (List.mem_cons_of_mem _ hq)⟩
theorem Gp.puts_none {n : Nat} : ∀ {l : List Bd} {g : Gp}, g.Done n → (∀ r ∈ l, r.1 < n ∧ r.2.1 < n) → g.puts l = none → ∀ x, g.Lays n x → ¬ ∀ r ∈ l, Bd.Has x r
  | [], _, _, _, e => by cases e
  | r :: l, g, h, hl, e => by
    intro x hx hr
    unfold Gp.puts at e
    cases e1 : g.put r.1 r.2.1 r.2.2.1 r.2.2.2 with
    | none => exact Gp.put_none h (hl r List.mem_cons_self).1 (hl r List.mem_cons_self).2 e1 hx (hr r List.mem_cons_self)
    | some g1 =>
      rw [e1] at e
      obtain ⟨d1, x1⟩ := Gp.put_some h (hl r List.mem_cons_self).1 (hl r List.mem_cons_self).2 e1
      exact Gp.puts_none d1 (fun r hr => hl r (List.mem_cons_of_mem _ hr)) e x ((x1 x).2 ⟨hx, hr r List.mem_cons_self⟩) (fun q hq => hr q (List.mem_cons_of_mem _ hq))
theorem Gp.puts_append (g : Gp) : ∀ (l l' : List Bd), g.puts (l ++ l') = (g.puts l).bind fun g' => g'.puts l'
  | [], _ => rfl
  | r :: l, l' => by
    show (g.put r.1 r.2.1 r.2.2.1 r.2.2.2).bind (fun g' => g'.puts (l ++ l')) = ((g.put r.1 r.2.1 r.2.2.1 r.2.2.2).bind fun g' => g'.puts l).bind fun g' => g'.puts l'
    cases g.put r.1 r.2.1 r.2.2.1 r.2.2.2 with
    | none => rfl
    | some g1 => exact Gp.puts_append g1 l l'
theorem Gp.Small.puts {n : Nat} {d : Int} : ∀ {l : List Bd} {g g' : Gp}, g.Small n d → g.puts l = some g' → g'.Small n d
  | [], _, _, h, e => by
    cases e
    exact h
  | r :: l, g, g', h, e => by
    unfold Gp.puts at e
    cases e1 : g.put r.1 r.2.1 r.2.2.1 r.2.2.2 with
    | none =>
      rw [e1] at e
      cases e
    | some g1 =>
      rw [e1] at e
      exact (h.put e1).puts e
end Go.Proofs.Ythnhcacoegmdfaa

namespace Go.Proofs.Ythnhcacoegmdfaa

/-- A reading: two blocks, a minute, and from where to where it is. -/
structure Rdg where
  a : Nat
  b : Nat
  at_ : Int
  lo : Int
  hi : Int
/-- A pair as numbers; no addresses. -/
structure Prn where
  bs : List (Int × Int)
  zlo : Int
  zhi : Int
  rlo : Int
  rhi : Int
  rs : List Rdg
/-- What a comparator shows of equal blocks at a minute. -/
def shw (c : Int × Int) (m : Int) : Int := c.1 + c.2 * m / 10
/-- The span of a block; one that is not there is as short as can be. -/
def Prn.blk (p : Prn) (i : Nat) : Int × Int := p.bs[i]?.getD (-20, -20)
def Prn.bds (p : Prn) : List Bd := (List.range 5).map fun i => (i, 5, (p.blk i).1, (p.blk i).2)
def Rdg.bd (c : Int × Int) (r : Rdg) : Bd := (r.a, r.b, r.lo - shw c r.at_, r.hi - shw c r.at_)
/-- What blocks can differ by before anything is read; and with a comparator, by all readings. -/
def Prn.unread (p : Prn) : Option Gp := (Gp.free 5 20).puts p.bds
def Prn.left (p : Prn) (c : Int × Int) : Option Gp := p.unread.bind fun g => g.puts (p.rs.map (Rdg.bd c))
/-- Is this so, with this comparator? -/
structure Prn.Tr (p : Prn) (c : Int × Int) (x : Nat → Int) : Prop where
  mark : x 5 = 0
  blk : ∀ i, i < 5 → (p.blk i).1 ≤ x i ∧ x i ≤ (p.blk i).2
  rd : ∀ r ∈ p.rs, r.lo ≤ x r.a - x r.b + shw c r.at_ ∧ x r.a - x r.b + shw c r.at_ ≤ r.hi
/-- What is needed of a pair that is valid. -/
structure Prn.Ok (p : Prn) : Prop where
  bl : ∀ i, i < 5 → -20 ≤ (p.blk i).1 ∧ (p.blk i).1 ≤ (p.blk i).2 ∧ (p.blk i).2 ≤ 20
  rl : ∀ r ∈ p.rs, r.a < 5 ∧ r.b < 5
theorem Prn.bds_in (p : Prn) : ∀ r ∈ p.bds, r.1 < 6 ∧ r.2.1 < 6 := by
  intro r hr
  obtain ⟨i, hi, rfl⟩ := List.mem_map.1 hr
  have := List.mem_range.1 hi
  exact ⟨by show i < 6; omega, by show 5 < 6; omega⟩
theorem Prn.bds_has (p : Prn) {x : Nat → Int} (h5 : x 5 = 0) : (∀ r ∈ p.bds, Bd.Has x r) ↔ ∀ i, i < 5 → (p.blk i).1 ≤ x i ∧ x i ≤ (p.blk i).2 := by
  constructor
  · intro h i hi
    have h1 : Bd.Has x (i, 5, (p.blk i).1, (p.blk i).2) := h _ (List.mem_map.2 ⟨i, List.mem_range.2 hi, rfl⟩)
    obtain ⟨h2, h3⟩ := h1
    dsimp only at h2 h3
    omega
  · intro h r hr
    obtain ⟨i, hi, rfl⟩ := List.mem_map.1 hr
    have h1 := h i (List.mem_range.1 hi)
    exact ⟨by dsimp only; omega, by dsimp only; omega⟩
theorem free_in (p : Prn) (hp : p.Ok) {x : Nat → Int} (h5 : x 5 = 0) (hb : ∀ i, i < 5 → (p.blk i).1 ≤ x i ∧ x i ≤ (p.blk i).2) : (Gp.free 5 20).Lays 6 x := by
  refine (Gp.free_lays (n := 5)).2 fun i hi => ?_
  have h1 := hb i hi
  have h2 := hp.bl i hi
  omega
/-- Before anything is read there always is something left. -/
theorem Prn.unread_some {p : Prn} (hp : p.Ok) : ∃ g, p.unread = some g ∧ g.Done 6 ∧ g.Small 6 40 ∧ ∀ x, x 5 = 0 → (g.Lays 6 x ↔ ∀ i, i < 5 → (p.blk i).1 ≤ x i ∧ x i ≤ (p.blk i).2) := by
  have hd : (Gp.free 5 20).Done 6 := Gp.free_done (by omega)
  have hs : (Gp.free 5 20).Small 6 40 := fun i j _ _ => by
    unfold Gp.free
    split
    · omega
    · split <;> omega
  cases e : p.unread with
  | none =>
    exfalso
    have h5 : (fun i => if i < 5 then (p.blk i).1 else (0 : Int)) 5 = 0 := rfl
    have hb : ∀ i, i < 5 → (p.blk i).1 ≤ (fun i => if i < 5 then (p.blk i).1 else (0 : Int)) i ∧ (fun i => if i < 5 then (p.blk i).1 else (0 : Int)) i ≤ (p.blk i).2 := fun i hi => by
      have := hp.bl i hi
      dsimp only
      rw [if_pos hi]
      omega
    exact Gp.puts_none hd p.bds_in e _ (free_in p hp h5 hb) ((p.bds_has h5).2 hb)
  | some g =>
    obtain ⟨d, hx⟩ := Gp.puts_some hd p.bds_in e
    refine ⟨g, rfl, d, hs.puts e, fun x h5 => ?_⟩
    rw [hx, p.bds_has h5]
    exact ⟨fun h => h.2, fun h => ⟨free_in p hp h5 h, h⟩⟩
theorem Prn.rds_in {p : Prn} (hp : p.Ok) (c : Int × Int) : ∀ r ∈ p.rs.map (Rdg.bd c), r.1 < 6 ∧ r.2.1 < 6 := by
  intro r hr
  obtain ⟨q, hq, rfl⟩ := List.mem_map.1 hr
  have := hp.rl q hq
  exact ⟨by show q.a < 6; omega, by show q.b < 6; omega⟩
theorem rds_has {rs : List Rdg} {c : Int × Int} {x : Nat → Int} : (∀ r ∈ rs.map (Rdg.bd c), Bd.Has x r) ↔ ∀ r ∈ rs, r.lo ≤ x r.a - x r.b + shw c r.at_ ∧ x r.a - x r.b + shw c r.at_ ≤ r.hi := by
  constructor
  · intro h r hr
    have h1 : Bd.Has x (r.bd c) := h _ (List.mem_map.2 ⟨r, hr, rfl⟩)
    obtain ⟨h2, h3⟩ := h1
    dsimp only [Rdg.bd] at h2 h3
    omega
  · intro h q hq
    obtain ⟨r, hr, rfl⟩ := List.mem_map.1 hq
    have h1 := h r hr
    exact ⟨by dsimp only [Rdg.bd]; omega, by dsimp only [Rdg.bd]; omega⟩
/-- What is left with a comparator is just what is so of all truths with it. -/
theorem Prn.left_some {p : Prn} (hp : p.Ok) {c : Int × Int} {g : Gp} (e : p.left c = some g) : g.Done 6 ∧ g.Small 6 40 ∧ ∀ x, x 5 = 0 → (g.Lays 6 x ↔ p.Tr c x) := by
  obtain ⟨g0, e0, d0, s0, x0⟩ := Prn.unread_some hp
  unfold Prn.left at e
  rw [e0] at e
  have e : g0.puts (p.rs.map (Rdg.bd c)) = some g := e
  obtain ⟨d, hx⟩ := Gp.puts_some d0 (Prn.rds_in hp c) e
  refine ⟨d, s0.puts e, fun x h5 => ?_⟩
  rw [hx, x0 x h5, rds_has]
  exact ⟨fun h => ⟨h5, h.1, h.2⟩, fun h => ⟨h.blk, h.rd⟩⟩
theorem Prn.left_none {p : Prn} (hp : p.Ok) {c : Int × Int} (e : p.left c = none) (x : Nat → Int) : ¬ p.Tr c x := by
  obtain ⟨g0, e0, d0, s0, x0⟩ := Prn.unread_some hp
  unfold Prn.left at e
  rw [e0] at e
  have e : g0.puts (p.rs.map (Rdg.bd c)) = none := e
  intro h
  exact Gp.puts_none d0 (Prn.rds_in hp c) e x ((x0 x h.mark).2 h.blk) (rds_has.2 h.rd)
/-- Is there a truth with a comparator? Just if something is left. -/
theorem Prn.left_is {p : Prn} (hp : p.Ok) (c : Int × Int) : (p.left c).isSome = true ↔ ∃ x, p.Tr c x := by
  cases e : p.left c with
  | none => exact ⟨fun h => (by cases h), fun ⟨x, h⟩ => (Prn.left_none hp e x h).elim⟩
  | some g =>
    obtain ⟨d, _, hx⟩ := Prn.left_some hp e
    obtain ⟨x, h1, h2, _⟩ := Gp.reached d (a := 5) (b := 5) (by omega) 0 5
    exact ⟨fun _ => ⟨x, (hx x h2).1 h1⟩, fun _ => rfl⟩
/-- By how much two of six places differ, with a comparator: no truth has more, and some truth has each end. -/
theorem Prn.differ_is {p : Prn} (hp : p.Ok) {c : Int × Int} {g : Gp} (e : p.left c = some g) {a b : Nat} (ha : a < 6) (hb : b < 6) : (∀ x, p.Tr c x → -g b a ≤ x a - x b ∧ x a - x b ≤ g a b) ∧ (∃ x, p.Tr c x ∧ x a - x b = g a b) ∧ ∃ x, p.Tr c x ∧ x a - x b = -g b a := by
  obtain ⟨d, _, hx⟩ := Prn.left_some hp e
  refine ⟨fun x h => ?_, ?_, ?_⟩
  · have h1 := (hx x h.mark).2 h
    have h2 := h1 a b ha hb
    have h3 := h1 b a hb ha
    omega
  · obtain ⟨x, h1, h2, h3⟩ := Gp.reached d (a := a) hb 0 5
    exact ⟨x, (hx x h2).1 h1, h3⟩
  · obtain ⟨x, h1, h2, h3⟩ := Gp.reached d (a := b) ha 0 5
    exact ⟨x, (hx x h2).1 h1, by omega⟩
/-- A block that is longest in some truth with a comparator, or in all of them. -/
theorem Prn.perhaps_is {p : Prn} (hp : p.Ok) {c : Int × Int} {g : Gp} (e : p.left c = some g) {a : Nat} (ha : a < 5) : (∃ x, p.Tr c x ∧ ∀ o, o < 5 → x o ≤ x a) ↔ ∀ o, o < 5 → 0 ≤ g a o := by
  obtain ⟨d, _, hx⟩ := Prn.left_some hp e
  have h := Gp.top d (a := a) (by omega) (fun o => o < 5) 0 5
  constructor
  · rintro ⟨x, h1, h2⟩ o ho
    exact h.1 ⟨x, (hx x h1.mark).2 h1, h1.mark, fun o _ h => h2 o h⟩ o (by omega) ho
  · intro h1
    obtain ⟨x, h2, h3, h4⟩ := h.2 (fun o _ ho => h1 o ho)
    exact ⟨x, (hx x h3).1 h2, fun o ho => h4 o (by omega) ho⟩
theorem Prn.surely_is {p : Prn} (hp : p.Ok) {c : Int × Int} {g : Gp} (e : p.left c = some g) {a : Nat} (ha : a < 5) : (∀ x, p.Tr c x → ∀ o, o < 5 → x o ≤ x a) ↔ ∀ o, o < 5 → g o a ≤ 0 := by
  obtain ⟨d, _, hx⟩ := Prn.left_some hp e
  have h := Gp.sure d (a := a) (by omega) (fun o => o < 5) 0 5
  constructor
  · intro h1 o ho
    exact h.1 (fun x h2 h3 o _ ho => h1 x ((hx x h3).1 h2) o ho) o (by omega) ho
  · intro h1 x h2 o ho
    exact h.2 (fun o _ ho => h1 o ho) x ((hx x h2.mark).2 h2) h2.mark o (by omega) ho
/-- Fewer readings leave no less. -/
theorem Prn.Tr.fewer {p q : Prn} (hb : p.bs = q.bs) (hr : ∀ r ∈ q.rs, r ∈ p.rs) {c : Int × Int} {x : Nat → Int} (h : p.Tr c x) : q.Tr c x :=
  ⟨h.mark, fun i hi => by have := h.blk i hi; unfold Prn.blk at this ⊢; rw [← hb]; exact this, fun r hr' => h.rd r (hr r hr')⟩
end Go.Proofs.Ythnhcacoegmdfaa

namespace Go.Proofs.Ythnhcacoegmdfaa

/-- All comparators that a pair can have, in order. -/
def Prn.comps (p : Prn) : List (Int × Int) := (List.range (p.zhi - p.zlo + 1).toNat).flatMap fun (i : Nat) => (List.range (p.rhi - p.rlo + 1).toNat).map fun (j : Nat) => (p.zlo + (i : Int), p.rlo + (j : Int))
theorem Prn.mem_comps {p : Prn} {c : Int × Int} : c ∈ p.comps ↔ (p.zlo ≤ c.1 ∧ c.1 ≤ p.zhi) ∧ p.rlo ≤ c.2 ∧ c.2 ≤ p.rhi := by
  unfold Prn.comps
  rw [List.mem_flatMap]
  constructor
  · rintro ⟨i, hi, hc⟩
    obtain ⟨j, hj, rfl⟩ := List.mem_map.1 hc
    have h1 := List.mem_range.1 hi
    have h2 := List.mem_range.1 hj
    dsimp only
    omega
  · rintro ⟨⟨h1, h2⟩, h3, h4⟩
    obtain ⟨z, r⟩ := c
    dsimp only at h1 h2 h3 h4
    refine ⟨(z - p.zlo).toNat, List.mem_range.2 (by omega), List.mem_map.2 ⟨(r - p.rlo).toNat, List.mem_range.2 (by omega), ?_⟩⟩
    rw [Prod.mk.injEq]
    omega
/-- No comparator comes twice. -/
theorem Prn.comps_nodup (p : Prn) : p.comps.Nodup := by
  unfold Prn.comps
  rw [List.nodup_iff_pairwise_ne, List.pairwise_flatMap]
  refine ⟨fun i _ => ?_, ?_⟩
  · rw [List.pairwise_map]
    exact (List.nodup_iff_pairwise_ne.1 List.nodup_range).imp fun h e => h (by
      rw [Prod.mk.injEq] at e
      omega)
  · refine (List.nodup_iff_pairwise_ne.1 List.nodup_range).imp ?_
    intro i j h c hc c' hc' e
    obtain ⟨a, _, rfl⟩ := List.mem_map.1 hc
    obtain ⟨b, _, rfl⟩ := List.mem_map.1 hc'
    rw [Prod.mk.injEq] at e
    omega
/-- What is left with each comparator with which there is a truth. -/
def Prn.known (p : Prn) : List ((Int × Int) × Gp) := p.comps.filterMap fun c => (p.left c).map fun g => (c, g)
theorem Prn.mem_known {p : Prn} {k : (Int × Int) × Gp} : k ∈ p.known ↔ k.1 ∈ p.comps ∧ p.left k.1 = some k.2 := by
  unfold Prn.known
  rw [List.mem_filterMap]
  constructor
  · rintro ⟨c, hc, e⟩
    cases h : p.left c with
    | none =>
      rw [h] at e
      cases e
    | some g =>
      rw [h] at e
      cases e
      exact ⟨hc, h⟩
  · rintro ⟨hc, e⟩
    exact ⟨k.1, hc, by rw [e]; rfl⟩
/-- Is something so of some truth? Just if there is one, with some comparator. -/
def Prn.some_ (p : Prn) (so : (Int × Int) → (Nat → Int) → Prop) : Prop := ∃ c ∈ p.comps, ∃ x, p.Tr c x ∧ so c x
theorem Prn.known_is {p : Prn} (hp : p.Ok) : p.known ≠ [] ↔ p.some_ fun _ _ => True := by
  constructor
  · intro h
    obtain ⟨k, hk⟩ := List.exists_mem_of_ne_nil _ h
    obtain ⟨h1, h2⟩ := Prn.mem_known.1 hk
    obtain ⟨x, hx⟩ := (Prn.left_is hp k.1).1 (by rw [h2]; rfl)
    exact ⟨k.1, h1, x, hx, trivial⟩
  · rintro ⟨c, hc, x, hx, _⟩
    have h := (Prn.left_is hp c).2 ⟨x, hx⟩
    obtain ⟨g, hg⟩ := Option.isSome_iff_exists.1 h
    exact List.ne_nil_of_mem (Prn.mem_known.2 ⟨hc, hg⟩ : (c, g) ∈ p.known)
/-- The span from the least to the greatest number that is told. -/
def hullS (s : Int × Int) (l : List (Int × Int)) : Int × Int := l.foldl (fun s t => (min s.1 t.1, max s.2 t.2)) s
def hull0 : Int × Int := (9223372036854775807, -9223372036854775808)
theorem hullS_perm {l l' : List (Int × Int)} (h : l.Perm l') : ∀ s, hullS s l = hullS s l' := by
  intro s
  refine h.foldl_eq' (fun a _ b _ s => ?_) s
  rw [Prod.mk.injEq]
  dsimp only
  omega
theorem hullS_min : ∀ (l : List (Int × Int)) (s : Int × Int), (hullS s l).1 ≤ s.1 ∧ (∀ t ∈ l, (hullS s l).1 ≤ t.1) ∧ ((hullS s l).1 = s.1 ∨ ∃ t ∈ l, (hullS s l).1 = t.1)
  | [], s => ⟨Int.le_refl _, fun t ht => (by cases ht), .inl rfl⟩
  | t :: l, s => by
    have h := hullS_min l (min s.1 t.1, max s.2 t.2)
    have e : hullS s (t :: l) = hullS (min s.1 t.1, max s.2 t.2) l := rfl
    rw [e]
    obtain ⟨h1, h2, h3⟩ := h
    dsimp only at h1 h3
    refine ⟨by omega, fun q hq => ?_, ?_⟩
    · rcases List.mem_cons.1 hq with rfl | hq
      · omega
      · exact h2 q hq
    · rcases h3 with h3 | ⟨q, hq, h3⟩
      · by_cases hst : s.1 ≤ t.1
        · exact .inl (by omega)
        · exact .inr ⟨t, List.mem_cons_self, by omega⟩
      · exact .inr ⟨q, List.mem_cons_of_mem _ hq, h3⟩
theorem hullS_max : ∀ (l : List (Int × Int)) (s : Int × Int), s.2 ≤ (hullS s l).2 ∧ (∀ t ∈ l, t.2 ≤ (hullS s l).2) ∧ ((hullS s l).2 = s.2 ∨ ∃ t ∈ l, (hullS s l).2 = t.2)
  | [], s => ⟨Int.le_refl _, fun t ht => (by cases ht), .inl rfl⟩
  | t :: l, s => by
    have h := hullS_max l (min s.1 t.1, max s.2 t.2)
    have e : hullS s (t :: l) = hullS (min s.1 t.1, max s.2 t.2) l := rfl
    rw [e]
    obtain ⟨h1, h2, h3⟩ := h
    dsimp only at h1 h3
    refine ⟨by omega, fun q hq => ?_, ?_⟩
    · rcases List.mem_cons.1 hq with rfl | hq
      · omega
      · exact h2 q hq
    · rcases h3 with h3 | ⟨q, hq, h3⟩
      · by_cases hst : t.2 ≤ s.2
        · exact .inl (by omega)
        · exact .inr ⟨t, List.mem_cons_self, by omega⟩
      · exact .inr ⟨q, List.mem_cons_of_mem _ hq, h3⟩
/-- What the hull of spans is that keep to limits. -/
theorem hull_is {l : List (Int × Int)} (hn : l ≠ []) (hb : ∀ t ∈ l, t.1 ≤ 9223372036854775807 ∧ -9223372036854775808 ≤ t.2) : (∀ t ∈ l, (hullS hull0 l).1 ≤ t.1 ∧ t.2 ≤ (hullS hull0 l).2) ∧ (∃ t ∈ l, (hullS hull0 l).1 = t.1) ∧ ∃ t ∈ l, (hullS hull0 l).2 = t.2 := by
  obtain ⟨_, a2, a3⟩ := hullS_min l hull0
  obtain ⟨_, b2, b3⟩ := hullS_max l hull0
  obtain ⟨q, hq⟩ := List.exists_mem_of_ne_nil _ hn
  have hq2 := hb q hq
  refine ⟨fun t ht => ⟨a2 t ht, b2 t ht⟩, ?_, ?_⟩
  · rcases a3 with a3 | a3
    · refine ⟨q, hq, ?_⟩
      have := a2 q hq
      have e : hull0.1 = 9223372036854775807 := rfl
      omega
    · exact a3
  · rcases b3 with b3 | b3
    · refine ⟨q, hq, ?_⟩
      have := b2 q hq
      have e : hull0.2 = -9223372036854775808 := rfl
      omega
    · exact b3
/-- By how much two places differ, by all truths. -/
def Prn.differA (p : Prn) (a b : Nat) : Int × Int := hullS hull0 (p.known.map fun k => (-k.2 b a, k.2 a b))
theorem Prn.differA_is {p : Prn} (hp : p.Ok) (hn : p.known ≠ []) {a b : Nat} (ha : a < 6) (hb : b < 6) :
    (∀ c ∈ p.comps, ∀ x, p.Tr c x → (p.differA a b).1 ≤ x a - x b ∧ x a - x b ≤ (p.differA a b).2) ∧ (p.some_ fun _ x => x a - x b = (p.differA a b).1) ∧ p.some_ fun _ x => x a - x b = (p.differA a b).2 := by
  have hl : (p.known.map fun k => (-k.2 b a, k.2 a b)) ≠ [] := by simpa using hn
  have hbd : ∀ t ∈ (p.known.map fun k => (-k.2 b a, k.2 a b)), t.1 ≤ 9223372036854775807 ∧ -9223372036854775808 ≤ t.2 := by
    intro t ht
    obtain ⟨k, hk, rfl⟩ := List.mem_map.1 ht
    obtain ⟨_, h2⟩ := Prn.mem_known.1 hk
    obtain ⟨d, s, _⟩ := Prn.left_some hp h2
    have h3 := Gp.low d s hb ha
    have h4 := Gp.low d s ha hb
    dsimp only
    omega
  obtain ⟨h1, h2, h3⟩ := hull_is hl hbd
  refine ⟨fun c hc x hx => ?_, ?_, ?_⟩
  · obtain ⟨g, hg⟩ := Option.isSome_iff_exists.1 ((Prn.left_is hp c).2 ⟨x, hx⟩)
    have h4 := h1 (-g b a, g a b) (List.mem_map.2 ⟨(c, g), Prn.mem_known.2 ⟨hc, hg⟩, rfl⟩)
    have h5 := (Prn.differ_is hp hg ha hb).1 x hx
    unfold Prn.differA
    dsimp only at h4
    omega
  · obtain ⟨t, ht, e⟩ := h2
    obtain ⟨k, hk, rfl⟩ := List.mem_map.1 ht
    obtain ⟨k1, k2⟩ := Prn.mem_known.1 hk
    obtain ⟨x, hx, ex⟩ := (Prn.differ_is hp k2 ha hb).2.2
    exact ⟨k.1, k1, x, hx, ex.trans e.symm⟩
  · obtain ⟨t, ht, e⟩ := h3
    obtain ⟨k, hk, rfl⟩ := List.mem_map.1 ht
    obtain ⟨k1, k2⟩ := Prn.mem_known.1 hk
    obtain ⟨x, hx, ex⟩ := (Prn.differ_is hp k2 ha hb).2.1
    exact ⟨k.1, k1, x, hx, ex.trans e.symm⟩
/-- What the comparator shows of equal blocks, by all truths. -/
def Prn.showsA (p : Prn) (m : Int) : Int × Int := hullS hull0 (p.known.map fun k => (shw k.1 m, shw k.1 m))
end Go.Proofs.Ythnhcacoegmdfaa

namespace Go.Proofs.Ythnhcacoegmdfaa

/-- How many of the first eight bits are set. -/
def bitsN (s : Nat) : Nat := (List.range 8).countP fun i => s.testBit i
/-- All sets of the first n numbers: smaller ones first, and of equal ones the lesser number. -/
def setsL (n : Nat) : List Nat := (List.range (n + 1)).flatMap fun size => (List.range (2 ^ n)).filter fun s => bitsN s == size
def fewestL (n : Nat) (so : Nat → Bool) : Nat := ((setsL n).find? so).getD (2 ^ n - 1)
/-- One set comes before another one. -/
def Before (s t : Nat) : Prop := bitsN s < bitsN t ∨ bitsN s = bitsN t ∧ s < t
theorem setsL_sorted (n : Nat) : (setsL n).Pairwise Before := by
  unfold setsL
  rw [List.pairwise_flatMap]
  refine ⟨fun size _ => ?_, ?_⟩
  · have h : ((List.range (2 ^ n)).filter fun s => bitsN s == size).Pairwise (· < ·) := List.Pairwise.filter _ List.pairwise_lt_range
    refine (List.pairwise_iff_forall_sublist.2 fun {a b} hab => ?_)
    have h1 := List.pairwise_iff_forall_sublist.1 h hab
    have ha : a ∈ (List.range (2 ^ n)).filter fun s => bitsN s == size := hab.subset (by simp)
    have hb : b ∈ (List.range (2 ^ n)).filter fun s => bitsN s == size := hab.subset (by simp)
    have ea := (List.mem_filter.1 ha).2
    have eb := (List.mem_filter.1 hb).2
    simp only [beq_iff_eq] at ea eb
    exact .inr ⟨by omega, h1⟩
  · refine List.pairwise_lt_range.imp ?_
    intro i j hij a ha b hb
    have ea := (List.mem_filter.1 ha).2
    have eb := (List.mem_filter.1 hb).2
    simp only [beq_iff_eq] at ea eb
    exact .inl (by omega)
theorem bitsN_le {n s : Nat} (hn : n ≤ 8) (hs : s < 2 ^ n) : bitsN s ≤ n := by
  unfold bitsN
  have h : (List.range 8) = List.range n ++ (List.range (8 - n)).map (n + ·) := by
    rw [← List.range_add]
    congr 1
    omega
  rw [h, List.countP_append]
  have h1 : (List.range n).countP (fun i => s.testBit i) ≤ n := by
    have := List.countP_le_length (p := fun i => s.testBit i) (l := List.range n)
    rwa [List.length_range] at this
  have h2 : ((List.range (8 - n)).map (n + ·)).countP (fun i => s.testBit i) = 0 := by
    rw [List.countP_eq_zero]
    intro i hi
    obtain ⟨j, _, rfl⟩ := List.mem_map.1 hi
    have : s.testBit (n + j) = false := Nat.testBit_lt_two_pow (Nat.lt_of_lt_of_le hs (Nat.pow_le_pow_right (by omega) (by omega)))
    simp [this]
  omega
theorem mem_setsL {n s : Nat} (hn : n ≤ 8) : s ∈ setsL n ↔ s < 2 ^ n := by
  unfold setsL
  rw [List.mem_flatMap]
  constructor
  · rintro ⟨_, _, h⟩
    exact List.mem_range.1 (List.mem_filter.1 h).1
  · intro h
    exact ⟨bitsN s, List.mem_range.2 (by have := bitsN_le hn h; omega), List.mem_filter.2 ⟨List.mem_range.2 h, by simp⟩⟩
/-- The first set by size of which something is so. -/
theorem fewest_is {n : Nat} (hn : n ≤ 8) {so : Nat → Bool} (h : ∃ s, s < 2 ^ n ∧ so s = true) : fewestL n so < 2 ^ n ∧ so (fewestL n so) = true ∧ ∀ s, s < 2 ^ n → so s = true → s = fewestL n so ∨ Before (fewestL n so) s := by
  unfold fewestL
  cases e : (setsL n).find? so with
  | none =>
    obtain ⟨s, h1, h2⟩ := h
    have := List.find?_eq_none.1 e s ((mem_setsL hn).2 h1)
    exact (this h2).elim
  | some f =>
    rw [Option.getD_some]
    obtain ⟨hf, as, bs, hl, ha⟩ := List.find?_eq_some_iff_append.1 e
    have hs := setsL_sorted n
    rw [hl, List.pairwise_append] at hs
    refine ⟨(mem_setsL hn).1 (by rw [hl]; simp), hf, fun s h1 h2 => ?_⟩
    have hm := (mem_setsL hn).2 h1
    rw [hl, List.mem_append, List.mem_cons] at hm
    rcases hm with hm | rfl | hm
    · have := ha s hm
      rw [h2] at this
      cases this
    · exact .inl rfl
    · exact .inr ((List.pairwise_cons.1 hs.2.1).1 s hm)
/-- The readings of which something is so, by their numbers. -/
def keepL (rs : List Rdg) (f : Nat → Bool) : List Rdg := (rs.zipIdx.filter fun x => f x.2).map (·.1)
def Prn.keep (p : Prn) (f : Nat → Bool) : Prn := { p with rs := keepL p.rs f }
theorem mem_keepL {rs : List Rdg} {f : Nat → Bool} {r : Rdg} : r ∈ keepL rs f ↔ ∃ i, rs[i]? = some r ∧ f i = true := by
  unfold keepL
  rw [List.mem_map]
  constructor
  · rintro ⟨⟨q, i⟩, h, rfl⟩
    obtain ⟨h1, h2⟩ := List.mem_filter.1 h
    exact ⟨i, List.mem_zipIdx_iff_getElem?.1 h1, h2⟩
  · rintro ⟨i, h1, h2⟩
    exact ⟨(r, i), List.mem_filter.2 ⟨List.mem_zipIdx_iff_getElem?.2 h1, h2⟩, rfl⟩
theorem Prn.Ok.keep {p : Prn} (hp : p.Ok) (f : Nat → Bool) : (p.keep f).Ok :=
  ⟨hp.bl, fun r hr => by
    obtain ⟨i, h, _⟩ := mem_keepL.1 hr
    exact hp.rl r (List.mem_of_getElem? h)⟩
theorem Prn.Tr.keep {p : Prn} {f g : Nat → Bool} (hfg : ∀ i, i < p.rs.length → g i = true → f i = true) {c : Int × Int} {x : Nat → Int} (h : (p.keep f).Tr c x) : (p.keep g).Tr c x :=
  ⟨h.mark, h.blk, fun r hr => by
    obtain ⟨i, h1, h2⟩ := mem_keepL.1 hr
    obtain ⟨hi, _⟩ := List.getElem?_eq_some_iff.1 h1
    exact h.rd r (mem_keepL.2 ⟨i, h1, hfg i hi h2⟩)⟩
/-- Is there a truth? -/
def Prn.agreeB (p : Prn) : Bool := !p.known.isEmpty
theorem Prn.agree_is {p : Prn} (hp : p.Ok) : p.agreeB = true ↔ p.some_ fun _ _ => True := by
  rw [← Prn.known_is hp]
  unfold Prn.agreeB
  cases p.known <;> simp
/-- Which readings must be wrong; and which clash. -/
def Prn.wrongL (p : Prn) : Nat := fewestL p.rs.length fun out => (p.keep fun i => !out.testBit i).agreeB
def Prn.clashL (p : Prn) : Nat := fewestL p.rs.length fun kept => !(p.keep fun i => kept.testBit i).agreeB
/-- Without any reading there always is a truth. -/
theorem Prn.agree_bare {p : Prn} (hp : p.Ok) (hz : p.zlo ≤ p.zhi) (hr : p.rlo ≤ p.rhi) {f : Nat → Bool} (hf : ∀ i, i < p.rs.length → f i = false) : (p.keep f).agreeB = true := by
  rw [Prn.agree_is (hp.keep f)]
  refine ⟨(p.zlo, p.rlo), Prn.mem_comps.2 ⟨⟨Int.le_refl _, hz⟩, Int.le_refl _, hr⟩, fun i => if i < 5 then (p.blk i).1 else 0, ⟨rfl, fun i hi => ?_, fun r hr' => ?_⟩, trivial⟩
  · have h1 := hp.bl i hi
    show (p.blk i).1 ≤ (if i < 5 then (p.blk i).1 else 0) ∧ (if i < 5 then (p.blk i).1 else 0) ≤ (p.blk i).2
    rw [if_pos hi]
    omega
  · obtain ⟨i, h1, h2⟩ := mem_keepL.1 hr'
    obtain ⟨hi, _⟩ := List.getElem?_eq_some_iff.1 h1
    rw [hf i hi] at h2
    cases h2
theorem all_bits {n i : Nat} (hi : i < n) : (2 ^ n - 1).testBit i = true := by
  rw [Nat.testBit_two_pow_sub_one]
  simpa using hi
/-- The readings that are told to be wrong: without them there is a truth, and without others that are fewer, or come before, there is none. -/
theorem Prn.wrong_is {p : Prn} (hp : p.Ok) (h8 : p.rs.length ≤ 8) (hz : p.zlo ≤ p.zhi) (hr : p.rlo ≤ p.rhi) :
    p.wrongL < 2 ^ p.rs.length ∧ (p.keep fun i => !p.wrongL.testBit i).agreeB = true ∧ ∀ s, s < 2 ^ p.rs.length → (p.keep fun i => !s.testBit i).agreeB = true → s = p.wrongL ∨ Before p.wrongL s :=
  fewest_is h8 ⟨2 ^ p.rs.length - 1, Nat.sub_lt (Nat.two_pow_pos _) (by omega), Prn.agree_bare hp hz hr fun i hi => by rw [all_bits hi]; rfl⟩
theorem Prn.keep_all (p : Prn) {f : Nat → Bool} (hf : ∀ i, i < p.rs.length → f i = true) : p.keep f = p := by
  have h : keepL p.rs f = p.rs := by
    unfold keepL
    rw [List.filter_eq_self.2 (fun x hx => ?_)]
    · exact List.zipIdx_map_fst ..
    · obtain ⟨hi, _⟩ := List.getElem?_eq_some_iff.1 (List.mem_zipIdx_iff_getElem?.1 hx)
      exact hf _ hi
  unfold Prn.keep
  rw [h]
end Go.Proofs.Ythnhcacoegmdfaa

namespace Go.Proofs.Ythnhcacoegmdfaa

/-- The set of the first n numbers of which something is so, number by number. -/
def thoseL (n : Nat) (so : Nat → Bool) : Nat := (List.range n).foldl (fun s i => if so i then s ||| 1 <<< i else s) 0
theorem those_go (so : Nat → Bool) : ∀ (l : List Nat) (s i : Nat), (l.foldl (fun s i => if so i then s ||| 1 <<< i else s) s).testBit i = (s.testBit i || (l.contains i && so i))
  | [], s, i => by simp
  | j :: l, s, i => by
    rw [List.foldl_cons, those_go so l, List.contains_cons]
    by_cases hj : so j = true
    · rw [if_pos hj, Nat.testBit_or, Nat.one_shiftLeft, Nat.testBit_two_pow]
      by_cases e : j = i
      · subst e
        simp [hj]
      · have e' : (i == j) = false := by simpa using fun h => e h.symm
        simp [e, e']
    · rw [if_neg hj]
      by_cases e : i = j
      · subst e
        simp [hj]
      · have e' : (i == j) = false := by simpa using e
        simp [e']
theorem thoseL_bit (n : Nat) (so : Nat → Bool) (i : Nat) : (thoseL n so).testBit i = (decide (i < n) && so i) := by
  unfold thoseL
  rw [those_go]
  have h : (List.range n).contains i = decide (i < n) := by
    rw [Bool.eq_iff_iff]
    simp
  rw [h]
  simp
/-- The blocks that are longest in each truth, and those that are in some: gathered from what is left with each comparator. -/
def longS (n : Nat) (s : Nat × Nat) (l : List Gp) : Nat × Nat :=
  l.foldl (fun s g => (s.1 &&& thoseL n (fun a => (List.range 5).all fun o => decide (g o a ≤ 0)), s.2 ||| thoseL n (fun a => (List.range 5).all fun o => decide (0 ≤ g a o)))) s
theorem longS_perm {n : Nat} {l l' : List Gp} (h : l.Perm l') : ∀ s, longS n s l = longS n s l' := by
  intro s
  refine h.foldl_eq' (fun a _ b _ s => ?_) s
  rw [Prod.mk.injEq]
  refine ⟨Nat.eq_of_testBit_eq fun i => ?_, Nat.eq_of_testBit_eq fun i => ?_⟩
  · simp only [Nat.testBit_and]
    rw [Bool.and_assoc, Bool.and_assoc, Bool.and_comm (Nat.testBit (thoseL n _) i)]
  · simp only [Nat.testBit_or]
    rw [Bool.or_assoc, Bool.or_assoc, Bool.or_comm (Nat.testBit (thoseL n _) i)]
theorem longS_bit {n : Nat} : ∀ (l : List Gp) (s : Nat × Nat) (i : Nat), i < n →
    ((longS n s l).1.testBit i = true ↔ s.1.testBit i = true ∧ ∀ g ∈ l, ∀ o, o < 5 → g o i ≤ 0) ∧ ((longS n s l).2.testBit i = true ↔ s.2.testBit i = true ∨ ∃ g ∈ l, ∀ o, o < 5 → 0 ≤ g i o)
  | [], s, i, _ => by simp [longS]
  | g :: l, s, i, hi => by
    obtain ⟨h1, h2⟩ := longS_bit l (s.1 &&& thoseL n (fun a => (List.range 5).all fun o => decide (g o a ≤ 0)), s.2 ||| thoseL n (fun a => (List.range 5).all fun o => decide (0 ≤ g a o))) i hi
    have e : longS n s (g :: l) = longS n (s.1 &&& thoseL n (fun a => (List.range 5).all fun o => decide (g o a ≤ 0)), s.2 ||| thoseL n (fun a => (List.range 5).all fun o => decide (0 ≤ g a o))) l := rfl
    have a1 : ((List.range 5).all fun o => decide (g o i ≤ 0)) = true ↔ ∀ o, o < 5 → g o i ≤ 0 := by
      rw [List.all_eq_true]
      exact ⟨fun h o ho => of_decide_eq_true (h o (List.mem_range.2 ho)), fun h o ho => decide_eq_true (h o (List.mem_range.1 ho))⟩
    have a2 : ((List.range 5).all fun o => decide (0 ≤ g i o)) = true ↔ ∀ o, o < 5 → 0 ≤ g i o := by
      rw [List.all_eq_true]
      exact ⟨fun h o ho => of_decide_eq_true (h o (List.mem_range.2 ho)), fun h o ho => decide_eq_true (h o (List.mem_range.1 ho))⟩
    rw [e, h1, h2]
    dsimp only
    rw [Nat.testBit_and, Nat.testBit_or, thoseL_bit, thoseL_bit, decide_eq_true hi, Bool.true_and, Bool.true_and, Bool.and_eq_true, Bool.or_eq_true, a1, a2]
    constructor
    · constructor
      · rintro ⟨⟨b1, b2⟩, b3⟩
        exact ⟨b1, fun q hq => by
          rcases List.mem_cons.1 hq with rfl | hq
          · exact b2
          · exact b3 q hq⟩
      · rintro ⟨b1, b2⟩
        exact ⟨⟨b1, b2 g List.mem_cons_self⟩, fun q hq => b2 q (List.mem_cons_of_mem _ hq)⟩
    · constructor
      · rintro ((b1 | b1) | ⟨q, hq, b1⟩)
        · exact .inl b1
        · exact .inr ⟨g, List.mem_cons_self, b1⟩
        · exact .inr ⟨q, List.mem_cons_of_mem _ hq, b1⟩
      · rintro (b1 | ⟨q, hq, b1⟩)
        · exact .inl (.inl b1)
        · rcases List.mem_cons.1 hq with rfl | hq
          · exact .inl (.inr b1)
          · exact .inr ⟨q, hq, b1⟩
/-- What is told of the longest blocks. -/
def Prn.longA (p : Prn) : Nat × Nat := longS p.bs.length (2 ^ p.bs.length - 1, 0) (p.known.map (·.2))
theorem Prn.surely_all {p : Prn} (hp : p.Ok) {i : Nat} (hi : i < p.bs.length) (h5 : p.bs.length ≤ 5) : p.longA.1.testBit i = true ↔ ∀ c ∈ p.comps, ∀ x, p.Tr c x → ∀ o, o < 5 → x o ≤ x i := by
  unfold Prn.longA
  rw [(longS_bit _ _ i hi).1, all_bits hi]
  constructor
  · rintro ⟨_, h⟩ c hc x hx o ho
    obtain ⟨g, hg⟩ := Option.isSome_iff_exists.1 ((Prn.left_is hp c).2 ⟨x, hx⟩)
    exact (Prn.surely_is hp hg (a := i) (by omega)).2 (h g (List.mem_map.2 ⟨(c, g), Prn.mem_known.2 ⟨hc, hg⟩, rfl⟩)) x hx o ho
  · intro h
    refine ⟨rfl, fun g hg => ?_⟩
    obtain ⟨k, hk, rfl⟩ := List.mem_map.1 hg
    obtain ⟨k1, k2⟩ := Prn.mem_known.1 hk
    exact (Prn.surely_is hp k2 (a := i) (by omega)).1 (h k.1 k1)
theorem Prn.perhaps_all {p : Prn} (hp : p.Ok) {i : Nat} (hi : i < p.bs.length) (h5 : p.bs.length ≤ 5) : p.longA.2.testBit i = true ↔ p.some_ fun _ x => ∀ o, o < 5 → x o ≤ x i := by
  unfold Prn.longA
  rw [(longS_bit _ _ i hi).2]
  constructor
  · rintro (h | ⟨g, hg, h⟩)
    · simp at h
    · obtain ⟨k, hk, rfl⟩ := List.mem_map.1 hg
      obtain ⟨k1, k2⟩ := Prn.mem_known.1 hk
      obtain ⟨x, h1, h2⟩ := (Prn.perhaps_is hp k2 (a := i) (by omega)).2 h
      exact ⟨k.1, k1, x, h1, h2⟩
  · rintro ⟨c, hc, x, hx, h⟩
    obtain ⟨g, hg⟩ := Option.isSome_iff_exists.1 ((Prn.left_is hp c).2 ⟨x, hx⟩)
    exact .inr ⟨g, List.mem_map.2 ⟨(c, g), Prn.mem_known.2 ⟨hc, hg⟩, rfl⟩, (Prn.perhaps_is hp hg (a := i) (by omega)).1 ⟨x, hx, h⟩⟩
/-- All pairs of n blocks in order, and the first of them that is widest. -/
def twosL (n : Nat) : List (Nat × Nat) := (List.range n).flatMap fun a => ((List.range n).filter fun b => decide (a < b)).map fun b => (a, b)
def farS (wide : Nat × Nat → Int) (s : (Nat × Nat) × Int) (l : List (Nat × Nat)) : (Nat × Nat) × Int := l.foldl (fun s t => if s.2 < wide t then (t, wide t) else s) s
/-- How wide it is what two blocks can differ by, by all truths; and the two that are widest. -/
def Prn.wideA (p : Prn) (t : Nat × Nat) : Int := (p.differA t.1 t.2).2 - (p.differA t.1 t.2).1
def Prn.farA (p : Prn) : (Nat × Nat) × Int := farS p.wideA ((0, 0), -1) (twosL p.bs.length)
end Go.Proofs.Ythnhcacoegmdfaa

namespace Go.Proofs.Ythnhcacoegmdfaa

/-- Two blocks that some reading compares. -/
def Lnk (rs : List Rdg) (i j : Nat) : Prop := ∃ r ∈ rs, r.a = i ∧ r.b = j ∨ r.a = j ∧ r.b = i
theorem Lnk.symm {rs : List Rdg} {i j : Nat} (h : Lnk rs i j) : Lnk rs j i := by
  obtain ⟨r, hr, h | h⟩ := h
  · exact ⟨r, hr, .inr h⟩
  · exact ⟨r, hr, .inl h⟩
/-- Two blocks that hang together. -/
inductive Hang (rs : List Rdg) (i : Nat) : Nat → Prop
  | own : Hang rs i i
  | on {j k : Nat} : Hang rs i j → Lnk rs j k → Hang rs i k
theorem Hang.trans {rs : List Rdg} {i j k : Nat} (h : Hang rs i j) (h' : Hang rs j k) : Hang rs i k := by
  induction h' with
  | own => exact h
  | on _ l ih => exact .on ih l
theorem Hang.symm {rs : List Rdg} {i j : Nat} (h : Hang rs i j) : Hang rs j i := by
  induction h with
  | own => exact .own
  | on _ l ih => exact Hang.trans (.on .own l.symm) ih
/-- A set out of which no reading leads. -/
def Sealed (rs : List Rdg) (J : Nat → Prop) : Prop := ∀ i j, J i → Lnk rs i j → J j
theorem Sealed.hang {rs : List Rdg} {J : Nat → Prop} (h : Sealed rs J) {i j : Nat} (hi : J i) (hh : Hang rs i j) : J j := by
  induction hh with
  | own => exact hi
  | on _ l ih => exact h _ _ ih l
/-- What a block's joining makes of the blocks that are joined. -/
structure Joins (rs : List Rdg) (J : Nat → Prop) (b : Nat) (J' : Nat → Prop) : Prop where
  up : ∀ i, J i → J' i
  own : J' b
  from_ : ∀ i, J' i → J i ∨ Hang rs b i
  all : ∀ i j, J' i → Lnk rs i j → J i ∨ J' j
/-- While a block is being joined: it is in, some of its readings have been gone through. -/
structure Going (rs : List Rdg) (J : Nat → Prop) (b : Nat) (pre : List Rdg) (J' : Nat → Prop) : Prop where
  up : ∀ i, J i → J' i
  own : J' b
  from_ : ∀ i, J' i → J i ∨ Hang rs b i
  all : ∀ i j, i ≠ b → J' i → Lnk rs i j → J i ∨ J' j
  gone : ∀ j, Lnk pre b j → J' j
theorem Going.start (rs : List Rdg) (J : Nat → Prop) (b : Nat) : Going rs J b [] (fun i => J i ∨ i = b) :=
  ⟨fun _ h => .inl h, .inr rfl, fun i h => h.elim .inl (fun e => .inr (e ▸ .own)), fun i j hi h _ => h.elim (fun h => .inl h) (fun e => (hi e).elim), fun j ⟨r, hr, _⟩ => by cases hr⟩
/-- A reading of other blocks. -/
theorem Going.pass {rs pre : List Rdg} {J J' : Nat → Prop} {b : Nat} {r : Rdg} (h : Going rs J b pre J') (ha : r.a ≠ b) (hb : r.b ≠ b) : Going rs J b (pre ++ [r]) J' :=
  ⟨h.up, h.own, h.from_, h.all, fun j ⟨q, hq, hj⟩ => by
    rcases List.mem_append.1 hq with hq | hq
    · exact h.gone j ⟨q, hq, hj⟩
    · rw [List.mem_singleton] at hq
      subst hq
      rcases hj with ⟨e, _⟩ | ⟨_, e⟩
      · exact (ha e).elim
      · exact (hb e).elim⟩
/-- A reading of the block and another one, o: o is joined. -/
theorem Going.step {rs pre : List Rdg} {J J' J2 : Nat → Prop} {b o : Nat} {r : Rdg} (h : Going rs J b pre J') (hr : r ∈ rs) (hab : r.a = b ∧ r.b = o ∨ r.a = o ∧ r.b = b) (hne : r.a ≠ r.b) (hj : Joins rs J' o J2) : Going rs J b (pre ++ [r]) J2 := by
  have hl : Lnk rs b o := ⟨r, hr, hab⟩
  refine ⟨fun i hi => hj.up i (h.up i hi), hj.up b h.own, fun i hi => ?_, fun i j hi hi2 hl2 => ?_, fun j hj2 => ?_⟩
  · rcases hj.from_ i hi with h1 | h1
    · exact h.from_ i h1
    · exact .inr (Hang.trans (.on .own hl) h1)
  · rcases hj.all i j hi2 hl2 with h1 | h1
    · rcases h.all i j hi h1 hl2 with h2 | h2
      · exact .inl h2
      · exact .inr (hj.up j h2)
    · exact .inr h1
  · obtain ⟨q, hq, hj3⟩ := hj2
    rcases List.mem_append.1 hq with hq | hq
    · exact hj.up j (h.gone j ⟨q, hq, hj3⟩)
    · rw [List.mem_singleton] at hq
      subst hq
      have e : j = o := by omega
      subst e
      exact hj.own
theorem Going.done {rs : List Rdg} {J J' : Nat → Prop} {b : Nat} (h : Going rs J b rs J') : Joins rs J b J' :=
  ⟨h.up, h.own, h.from_, fun i j hi hl => by
    by_cases e : i = b
    · subst e
      exact .inr (h.gone j hl)
    · exact h.all i j e hi hl⟩
/-- Joined to a set out of which no reading leads: just the block's group comes in. -/
theorem Joins.shut {rs : List Rdg} {J J' : Nat → Prop} {b : Nat} (h : Joins rs J b J') (hs : Sealed rs J) : Sealed rs J' ∧ ∀ i, J' i ↔ J i ∨ Hang rs b i := by
  have h1 : Sealed rs J' := fun i j hi hl => (h.all i j hi hl).elim (fun h2 => h.up j (hs i j h2 hl)) id
  exact ⟨h1, fun i => ⟨h.from_ i, fun hi => hi.elim (h.up i) (h1.hang h.own)⟩⟩
/-- How many of the first n blocks hang together with none before them. -/
noncomputable def groupsN (rs : List Rdg) (n : Nat) : Nat := by
  classical exact (List.range n).countP fun i => decide (∀ j, j < i → ¬ Hang rs j i)
theorem groupsN_zero (rs : List Rdg) : groupsN rs 0 = 0 := rfl
theorem groupsN_succ (rs : List Rdg) (n : Nat) : (∃ j, j < n ∧ Hang rs j n) ∧ groupsN rs (n + 1) = groupsN rs n ∨ (¬ ∃ j, j < n ∧ Hang rs j n) ∧ groupsN rs (n + 1) = groupsN rs n + 1 := by
  classical
  unfold groupsN
  rw [List.range_succ, List.countP_append]
  by_cases h : ∃ j, j < n ∧ Hang rs j n
  · refine .inl ⟨h, ?_⟩
    obtain ⟨j, h1, h2⟩ := h
    have : ¬ ∀ j, j < n → ¬ Hang rs j n := fun h3 => h3 j h1 h2
    simp [this]
  · refine .inr ⟨h, ?_⟩
    have : ∀ j, j < n → ¬ Hang rs j n := fun j h1 h2 => h ⟨j, h1, h2⟩
    simp only [List.countP_singleton]
    rw [if_pos (decide_eq_true this)]
/-- Behind the first k blocks: the groups that have been counted. -/
structure Counted (rs : List Rdg) (k : Nat) (J : Nat → Prop) (many : Nat) : Prop where
  shut : Sealed rs J
  has : ∀ i, J i ↔ ∃ j, j < k ∧ Hang rs j i
  many : many = groupsN rs k
theorem Counted.start (rs : List Rdg) : Counted rs 0 (fun _ => False) 0 :=
  ⟨fun _ _ h _ => h, fun i => ⟨False.elim, fun ⟨_, h, _⟩ => by omega⟩, (groupsN_zero rs).symm⟩
/-- A block of a new group. -/
theorem Counted.new {rs : List Rdg} {k many : Nat} {J J' : Nat → Prop} (h : Counted rs k J many) (hk : ¬ J k) (hj : Joins rs J k J') : Counted rs (k + 1) J' (many + 1) := by
  obtain ⟨h1, h2⟩ := hj.shut h.shut
  refine ⟨h1, fun i => ⟨fun hi => ?_, fun ⟨j, hj2, hh⟩ => ?_⟩, ?_⟩
  · rcases (h2 i).1 hi with h3 | h3
    · obtain ⟨j, h4, h5⟩ := (h.has i).1 h3
      exact ⟨j, by omega, h5⟩
    · exact ⟨k, by omega, h3⟩
  · by_cases e : j = k
    · subst e
      exact (h2 i).2 (.inr hh)
    · exact (h2 i).2 (.inl ((h.has i).2 ⟨j, by omega, hh⟩))
  · rcases groupsN_succ rs k with ⟨h3, _⟩ | ⟨_, h3⟩
    · exact (hk ((h.has k).2 h3)).elim
    · rw [h3, h.many]
end Go.Proofs.Ythnhcacoegmdfaa

namespace Go.Proofs.Ythnhcacoegmdfaa

/-- While a bound is put in: rows ahead of i, and of row i the numbers ahead of j, are done. -/
def Gp.mid (g : Gp) (a b : Nat) (m : Int) (i j : Nat) : Gp := fun i' j' => if i' < i ∨ i' = i ∧ j' < j then g.lim a b m i' j' else g i' j'
theorem Gp.mid_end (g : Gp) (a b : Nat) (m : Int) {n i' : Nat} (hi : i' < n) (j' : Nat) : g.mid a b m n 0 i' j' = g.lim a b m i' j' := if_pos (.inl hi)
/-- The row b is as it was, however far it has come. -/
theorem Gp.mid_b {n : Nat} {g : Gp} (h : g.Done n) {a b : Nat} (hb : b < n) {m : Int} (hm : 0 ≤ m + g b a) (i j : Nat) {j' : Nat} (hj : j' < n) : g.mid a b m i j b j' = g b j' := by
  unfold Gp.mid
  split
  · exact Gp.lim_over h hb hb hj (Gp.lim_row h hb hm)
  · rfl
/-- What is still to be done is as it was. -/
theorem Gp.mid_at (g : Gp) (a b : Nat) (m : Int) (i : Nat) {j j' : Nat} (h : j ≤ j') : g.mid a b m i j i j' = g i j' := if_neg (by omega)
/-- A row that is passed over. -/
theorem Gp.mid_over {n : Nat} {g : Gp} (h : g.Done n) {a b i : Nat} (hb : b < n) (hi : i < n) {m : Int} (hw : g i b ≤ g i a + m) {i' j' : Nat} (hj : j' < n) : g.mid a b m (i + 1) 0 i' j' = g.mid a b m i 0 i' j' := by
  unfold Gp.mid
  by_cases e : i' = i
  · subst e
    rw [if_pos (by omega), if_neg (by omega)]
    exact Gp.lim_over h hb hi hj hw
  · by_cases e2 : i' < i
    · rw [if_pos (by omega), if_pos (by omega)]
    · rw [if_neg (by omega), if_neg (by omega)]
/-- A row that has been gone through. -/
theorem Gp.mid_row (g : Gp) (a b : Nat) (m : Int) {n : Nat} (i i' : Nat) {j' : Nat} (hj : j' < n) : g.mid a b m i n i' j' = g.mid a b m (i + 1) 0 i' j' := by
  unfold Gp.mid
  by_cases e : i' < i ∨ i' = i ∧ j' < n
  · rw [if_pos e, if_pos (by omega)]
  · rw [if_neg e, if_neg (by omega)]
/-- One number more. -/
theorem Gp.mid_put (g : Gp) (a b : Nat) (m : Int) (i j i' j' : Nat) : g.mid a b m i (j + 1) i' j' = if i' = i ∧ j' = j then g.lim a b m i j else g.mid a b m i j i' j' := by
  unfold Gp.mid
  by_cases e : i' = i ∧ j' = j
  · obtain ⟨rfl, rfl⟩ := e
    rw [if_pos (by omega), if_pos ⟨rfl, rfl⟩]
  · rw [if_neg e]
    by_cases e2 : i' < i ∨ i' = i ∧ j' < j
    · rw [if_pos e2, if_pos (by omega)]
    · rw [if_neg e2, if_neg (by omega)]
/-- Numbers of blocks that keep to limits do not overflow. -/
theorem Gp.sums {n : Nat} {g : Gp} (h : g.Done n) (hs : g.Small n 40) {m : Int} (m1 : -200 ≤ m) (m2 : m ≤ 200) {i a b j : Nat} (hi : i < n) (ha : a < n) (hb : b < n) (hj : j < n) : -240 ≤ m + g b a ∧ m + g b a ≤ 240 ∧ -240 ≤ g i a + m ∧ g i a + m ≤ 240 ∧ -280 ≤ g i a + m + g b j ∧ g i a + m + g b j ≤ 280 := by
  have h1 := Gp.low h hs hb ha
  have h2 := hs b a hb ha
  have h3 := Gp.low h hs hi ha
  have h4 := hs i a hi ha
  have h5 := Gp.low h hs hb hj
  have h6 := hs b j hb hj
  omega
/-- What a comparator shows keeps to limits. -/
theorem shw_in {c : Int × Int} {m : Int} (z1 : -10 ≤ c.1) (z2 : c.1 ≤ 10) (r1 : -5 ≤ c.2) (r2 : c.2 ≤ 5) (m1 : 0 ≤ m) (m2 : m ≤ 60) : -300 ≤ c.2 * m ∧ c.2 * m ≤ 300 ∧ -40 ≤ shw c m ∧ shw c m ≤ 40 := by
  have h1 : -300 ≤ c.2 * m := by
    have h := Int.mul_le_mul_of_nonneg_right r1 m1
    omega
  have h2 : c.2 * m ≤ 300 := by
    have h := Int.mul_le_mul_of_nonneg_right r2 m1
    omega
  unfold shw
  omega
end Go.Proofs.Ythnhcacoegmdfaa
