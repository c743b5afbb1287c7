/-
  PAIR: a pair as numbers: its comparators, what blocks can differ by with each, and its truths.
-/
import Derived.Test.YtmiobcnccbfknaaQ1
namespace Go.Proofs.Ytmiobcnccbfknaa

/-- A reading: two blocks, a minute, and from where to where it is. -/
structure Rdg where
  a : Nat
  b : Nat
  at_ : Int
  lo : Int
  hi : Int
/-- A pair as numbers; no addresses. -/
structure Prn where
  bs : List (Int × Int)
  zlo : Int
  zhi : Int
  rlo : Int
  rhi : Int
  rs : List Rdg
/-- What a comparator shows of equal blocks at a minute. -/
def shw (c : Int × Int) (m : Int) : Int := c.1 + c.2 * m / 10
/-- The span of a block; one that is not there is as short as can be. -/
def Prn.blk (p : Prn) (i : Nat) : Int × Int := p.bs[i]?.getD (-20, -20)
def Prn.bds (p : Prn) : List Bd := (List.range 5).map fun i => (i, 5, (p.blk i).1, (p.blk i).2)
def Rdg.bd (c : Int × Int) (r : Rdg) : Bd := (r.a, r.b, r.lo - shw c r.at_, r.hi - shw c r.at_)
/-- What blocks can differ by before anything is read; and with a comparator, by all readings. -/
def Prn.unread (p : Prn) : Option Gp := (Gp.free 5 20).puts p.bds
def Prn.left (p : Prn) (c : Int × Int) : Option Gp := p.unread.bind fun g => g.puts (p.rs.map (Rdg.bd c))
/-- Is this so, with this comparator? -/
structure Prn.Tr (p : Prn) (c : Int × Int) (x : Nat → Int) : Prop where
  mark : x 5 = 0
  blk : ∀ i, i < 5 → (p.blk i).1 ≤ x i ∧ x i ≤ (p.blk i).2
  rd : ∀ r ∈ p.rs, r.lo ≤ x r.a - x r.b + shw c r.at_ ∧ x r.a - x r.b + shw c r.at_ ≤ r.hi
/-- What is needed of a pair that is valid. -/
structure Prn.Ok (p : Prn) : Prop where
  bl : ∀ i, i < 5 → -20 ≤ (p.blk i).1 ∧ (p.blk i).1 ≤ (p.blk i).2 ∧ (p.blk i).2 ≤ 20
  rl : ∀ r ∈ p.rs, r.a < 5 ∧ r.b < 5
theorem Prn.bds_in (p : Prn) : ∀ r ∈ p.bds, r.1 < 6 ∧ r.2.1 < 6 := by
  intro r hr
  obtain ⟨i, hi, rfl⟩ := List.mem_map.1 hr
  have := List.mem_range.1 hi
  exact ⟨by show i < 6; omega, by show 5 < 6; omega⟩
theorem Prn.bds_has (p : Prn) {x : Nat → Int} (h5 : x 5 = 0) : (∀ r ∈ p.bds, Bd.Has x r) ↔ ∀ i, i < 5 → (p.blk i).1 ≤ x i ∧ x i ≤ (p.blk i).2 := by
  constructor
  · intro h i hi
    have h1 : Bd.Has x (i, 5, (p.blk i).1, (p.blk i).2) := h _ (List.mem_map.2 ⟨i, List.mem_range.2 hi, rfl⟩)
    obtain ⟨h2, h3⟩ := h1
    dsimp only at h2 h3
    omega
  · intro h r hr
    obtain ⟨i, hi, rfl⟩ := List.mem_map.1 hr
    have h1 := h i (List.mem_range.1 hi)
    exact ⟨by dsimp only; omega, by dsimp only; omega⟩
theorem free_in (p : Prn) (hp : p.Ok) {x : Nat → Int} (h5 : x 5 = 0) (hb : ∀ i, i < 5 → (p.blk i).1 ≤ x i ∧ x i ≤ (p.blk i).2) : (Gp.free 5 20).Lays 6 x := by
  refine (Gp.free_lays (n := 5)).2 fun i hi => ?_
  have h1 := hb i hi
  have h2 := hp.bl i hi
  omega
/-- Before anything is read there always is something left. -/
theorem Prn.unread_some {p : Prn} (hp : p.Ok) : ∃ g, p.unread = some g ∧ g.Done 6 ∧ g.Small 6 40 ∧ ∀ x, x 5 = 0 → (g.Lays 6 x ↔ ∀ i, i < 5 → (p.blk i).1 ≤ x i ∧ x i ≤ (p.blk i).2) := by
  have hd : (Gp.free 5 20).Done 6 := Gp.free_done (by omega)
  have hs : (Gp.free 5 20).Small 6 40 := fun i j _ _ => by
    unfold Gp.free
    split
    · omega
    · split <;> omega
  cases e : p.unread with
  | none =>
    exfalso
    have h5 : (fun i => if i < 5 then (p.blk i).1 else (0 : Int)) 5 = 0 := rfl
    have hb : ∀ i, i < 5 → (p.blk i).1 ≤ (fun i => if i < 5 then (p.blk i).1 else (0 : Int)) i ∧ (fun i => if i < 5 then (p.blk i).1 else (0 : Int)) i ≤ (p.blk i).2 := fun i hi => by
      have := hp.bl i hi
      dsimp only
      rw [if_pos hi]
      omega
    exact Gp.puts_none hd p.bds_in e _ (free_in p hp h5 hb) ((p.bds_has h5).2 hb)
  | some g =>
    obtain ⟨d, hx⟩ := Gp.puts_some hd p.bds_in e
    refine ⟨g, rfl, d, hs.puts e, fun x h5 => ?_⟩
    rw [hx, p.bds_has h5]
    exact ⟨fun h => h.2, fun h => ⟨free_in p hp h5 h, h⟩⟩
theorem Prn.rds_in {p : Prn} (hp : p.Ok) (c : Int × Int) : ∀ r ∈ p.rs.map (Rdg.bd c), r.1 < 6 ∧ r.2.1 < 6 := by
  intro r hr
  obtain ⟨q, hq, rfl⟩ := List.mem_map.1 hr
  have := hp.rl q hq
  exact ⟨by show q.a < 6; omega, by show q.b < 6; omega⟩
theorem rds_has {rs : List Rdg} {c : Int × Int} {x : Nat → Int} : (∀ r ∈ rs.map (Rdg.bd c), Bd.Has x r) ↔ ∀ r ∈ rs, r.lo ≤ x r.a - x r.b + shw c r.at_ ∧ x r.a - x r.b + shw c r.at_ ≤ r.hi := by
  constructor
  · intro h r hr
    have h1 : Bd.Has x (r.bd c) := h _ (List.mem_map.2 ⟨r, hr, rfl⟩)
    obtain ⟨h2, h3⟩ := h1
    dsimp only [Rdg.bd] at h2 h3
    omega
  · intro h q hq
    obtain ⟨r, hr, rfl⟩ := List.mem_map.1 hq
    have h1 := h r hr
    exact ⟨by dsimp only [Rdg.bd]; omega, by dsimp only [Rdg.bd]; omega⟩
/-- What is left with a comparator is just what is so of all truths with it. -/
theorem Prn.left_some {p : Prn} (hp : p.Ok) {c : Int × Int} {g : Gp} (e : p.left c = some g) : g.Done 6 ∧ g.Small 6 40 ∧ ∀ x, x 5 = 0 → (g.Lays 6 x ↔ p.Tr c x) := by
  obtain ⟨g0, e0, d0, s0, x0⟩ := Prn.unread_some hp
  unfold Prn.left at e
  rw [e0] at e
  have e : g0.puts (p.rs.map (Rdg.bd c)) = some g := e
  obtain ⟨d, hx⟩ := Gp.puts_some d0 (Prn.rds_in hp c) e
  refine ⟨d, s0.puts e, fun x h5 => ?_⟩
  rw [hx, x0 x h5, rds_has]
  exact ⟨fun h => ⟨h5, h.1, h.2⟩, fun h => ⟨h.blk, h.rd⟩⟩
theorem Prn.left_none {p : Prn} (hp : p.Ok) {c : Int × Int} (e : p.left c = none) (x : Nat → Int) : ¬ p.Tr c x := by
  obtain ⟨g0, e0, d0, s0, x0⟩ := Prn.unread_some hp
  unfold Prn.left at e
  rw [e0] at e
  have e : g0.puts (p.rs.map (Rdg.bd c)) = none := e
  intro h
  exact Gp.puts_none d0 (Prn.rds_in hp c) e x ((x0 x h.mark).2 h.blk) (rds_has.2 h.rd)
/-- Is there a truth with a comparator? Just if something is left. -/
theorem Prn.left_is {p : Prn} (hp : p.Ok) (c : Int × Int) : (p.left c).isSome = true ↔ ∃ x, p.Tr c x := by
  cases e : p.left c with
  | none => exact ⟨fun h => (by cases h), fun ⟨x, h⟩ => (Prn.left_none hp e x h).elim⟩
  | some g =>
    obtain ⟨d, _, hx⟩ := Prn.left_some hp e
    obtain ⟨x, h1, h2, _⟩ := Gp.reached d (a := 5) (b := 5) (by omega) 0 5
    exact ⟨fun _ => ⟨x, (hx x h2).1 h1⟩, fun _ => rfl⟩
/-- By how much two of six places differ, with a comparator: no truth has more, and some truth has each end. -/
theorem Prn.differ_is {p : Prn} (hp : p.Ok) {c : Int × Int} {g : Gp} (e : p.left c = some g) {a b : Nat} (ha : a < 6) (hb : b < 6) : (∀ x, p.Tr c x → -g b a ≤ x a - x b ∧ x a - x b ≤ g a b) ∧ (∃ x, p.Tr c x ∧ x a - x b = g a b) ∧ ∃ x, p.Tr c x ∧ x a - x b = -g b a := by
  obtain ⟨d, _, hx⟩ := Prn.left_some hp e
  refine ⟨fun x h => ?_, ?_, ?_⟩
  · have h1 := (hx x h.mark).2 h
    have h2 := h1 a b ha hb
    have h3 := h1 b a hb ha
    omega
  · obtain ⟨x, h1, h2, h3⟩ := Gp.reached d (a := a) hb 0 5
    exact ⟨x, (hx x h2).1 h1, h3⟩
  · obtain ⟨x, h1, h2, h3⟩ := Gp.reached d (a := b) ha 0 5
    exact ⟨x, (hx x h2).1 h1, by omega⟩
/-- A block that is longest in some truth with a comparator, or in all of them. -/
theorem Prn.perhaps_is {p : Prn} (hp : p.Ok) {c : Int × Int} {g : Gp} (e : p.left c = some g) {a : Nat} (ha : a < 5) : (∃ x, p.Tr c x ∧ ∀ o, o < 5 → x o ≤ x a) ↔ ∀ o, o < 5 → 0 ≤ g a o := by
  obtain ⟨d, _, hx⟩ := Prn.left_some hp e
  have h := Gp.top d (a := a) (by omega) (fun o => o < 5) 0 5
  constructor
  · rintro ⟨x, h1, h2⟩ o ho
    exact h.1 ⟨x, (hx x h1.mark).2 h1, h1.mark, fun o _ h => h2 o h⟩ o (by omega) ho
  · intro h1
    obtain ⟨x, h2, h3, h4⟩ := h.2 (fun o _ ho => h1 o ho)
    exact ⟨x, (hx x h3).1 h2, fun o ho => h4 o (by omega) ho⟩
theorem Prn.surely_is {p : Prn} (hp : p.Ok) {c : Int × Int} {g : Gp} (e : p.left c = some g) {a : Nat} (ha : a < 5) : (∀ x, p.Tr c x → ∀ o, o < 5 → x o ≤ x a) ↔ ∀ o, o < 5 → g o a ≤ 0 := by
  obtain ⟨d, _, hx⟩ := Prn.left_some hp e
  have h := Gp.sure d (a := a) (by omega) (fun o => o < 5) 0 5
  constructor
  · intro h1 o ho
    exact h.1 (fun x h2 h3 o _ ho => h1 x ((hx x h3).1 h2) o ho) o (by omega) ho
  · intro h1 x h2 o ho
    exact h.2 (fun o _ ho => h1 o ho) x ((hx x h2.mark).2 h2) h2.mark o (by omega) ho
/-- Fewer readings leave no less. -/
theorem Prn.Tr.fewer {p q : Prn} (hb : p.bs = q.bs) (hr : ∀ r ∈ q.rs, r ∈ p.rs) {c : Int × Int} {x : Nat → Int} (h : p.Tr c x) : q.Tr c x :=
  ⟨h.mark, fun i hi => by have := h.blk i hi; unfold Prn.blk at this ⊢; rw [← hb]; exact this, fun r hr' => h.rd r (hr r hr')⟩
end Go.Proofs.Ytmiobcnccbfknaa
