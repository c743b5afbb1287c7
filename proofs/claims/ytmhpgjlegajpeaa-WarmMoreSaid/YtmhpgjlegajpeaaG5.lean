/-
  WARM: the numbers of WarmShows.
-/
import Derived.Test.YtmhpgjlegajpeaaG2
namespace Go.Proofs.Ytmhpgjlegajpeaa
open Go.RowKit

/-- The least and the greatest of what P says. -/
def Ends (P : Int → Prop) (u v : Int) : Prop := P u ∧ P v ∧ ∀ x, P x → u ≤ x ∧ x ≤ v
theorem Ends.same {P : Int → Prop} {u v u' v' : Int} (h : Ends P u v) (h' : Ends P u' v') : u = u' ∧ v = v' := by
  have h1 := h.2.2 _ h'.1
  have h2 := h.2.2 _ h'.2.1
  have h3 := h'.2.2 _ h.1
  have h4 := h'.2.2 _ h.2.1
  omega
theorem foldl_min (ys : List Int) : ∀ i : Int, (ys.foldl min i = i ∨ ys.foldl min i ∈ ys) ∧ ys.foldl min i ≤ i ∧ ∀ x ∈ ys, ys.foldl min i ≤ x := by
  induction ys with
  | nil => intro i; exact ⟨.inl rfl, Int.le_refl _, fun x hx => by cases hx⟩
  | cons y ys ih =>
    intro i
    obtain ⟨h1, h2, h3⟩ := ih (min i y)
    rw [List.foldl_cons]
    refine ⟨?_, by omega, fun x hx => ?_⟩
    · rcases h1 with h1 | h1
      · rw [h1]
        rcases Int.le_total i y with h | h
        · exact .inl (by omega)
        · exact .inr (by rw [show min i y = y by omega]; exact List.mem_cons_self)
      · exact .inr (List.mem_cons_of_mem _ h1)
    · rcases List.mem_cons.1 hx with e | e
      · subst e; omega
      · exact h3 x e
theorem foldl_max (ys : List Int) : ∀ i : Int, (ys.foldl max i = i ∨ ys.foldl max i ∈ ys) ∧ i ≤ ys.foldl max i ∧ ∀ x ∈ ys, x ≤ ys.foldl max i := by
  induction ys with
  | nil => intro i; exact ⟨.inl rfl, Int.le_refl _, fun x hx => by cases hx⟩
  | cons y ys ih =>
    intro i
    obtain ⟨h1, h2, h3⟩ := ih (max i y)
    rw [List.foldl_cons]
    refine ⟨?_, by omega, fun x hx => ?_⟩
    · rcases h1 with h1 | h1
      · rw [h1]
        rcases Int.le_total i y with h | h
        · exact .inr (by rw [show max i y = y by omega]; exact List.mem_cons_self)
        · exact .inl (by omega)
      · exact .inr (List.mem_cons_of_mem _ h1)
    · rcases List.mem_cons.1 hx with e | e
      · subst e; omega
      · exact h3 x e
theorem ends_list {ys : List Int} (h : ys ≠ []) (hb : ∀ x ∈ ys, -30000 ≤ x ∧ x ≤ 30000) : Ends (fun x => x ∈ ys) (loI ys) (hiI ys) := by
  obtain ⟨y, hy⟩ := List.exists_mem_of_ne_nil ys h
  have hy2 := hb y hy
  obtain ⟨a1, a2, a3⟩ := foldl_min ys 9223372036854775807
  obtain ⟨b1, b2, b3⟩ := foldl_max ys (-9223372036854775808)
  have a4 := a3 y hy
  have b4 := b3 y hy
  unfold loI hiI
  refine ⟨a1.resolve_left (by omega), b1.resolve_left (by omega), fun x hx => ⟨a3 x hx, b3 x hx⟩⟩
/-- What a truth can show at a warmth of these. -/
def Sh (B : Wm) (lo hi x : Int) : Prop := ∃ p ∈ B.truths, ∃ t, (lo ≤ t ∧ t ≤ hi) ∧ x = shI B.mark p.1.1 p.1.2 t
theorem mem_showL {B : Wm} {lo hi x : Int} : x ∈ B.showL lo hi ↔ Sh B lo hi x := by
  unfold Wm.showL Sh
  rw [List.mem_flatMap]
  refine exists_congr fun p => and_congr_right fun _ => ?_
  unfold shTo
  rw [List.mem_map]
  constructor
  · rintro ⟨i, hi', rfl⟩
    rw [List.mem_range] at hi'
    exact ⟨lo + (i : Int), ⟨by omega, by omega⟩, rfl⟩
  · rintro ⟨t, ⟨h1, h2⟩, rfl⟩
    refine ⟨(t - lo).toNat, by rw [List.mem_range]; omega, ?_⟩
    rw [show lo + ((t - lo).toNat : Int) = t by omega]
    rfl
theorem shows_ends {B : Wm} (hok : B.ok = true) (ht : B.truths.isEmpty = false) {lo hi : Int} (h0 : -100 ≤ lo) (h1 : lo ≤ hi) (h2 : hi ≤ 100) : ∃ u v, B.showsA lo hi = ((u, v), 0) ∧ Ends (Sh B lo hi) u v ∧ (-30000 ≤ u ∧ u ≤ 30000) ∧ -30000 ≤ v ∧ v ≤ 30000 := by
  have hL := Wm.ok_lim hok
  have hb : ∀ x, Sh B lo hi x → -30000 ≤ x ∧ x ≤ 30000 := by
    rintro x ⟨p, _, t, ⟨t1, t2⟩, rfl⟩
    exact shI_bd p hL.m1 hL.m2 (by omega) (by omega)
  have hne : B.showL lo hi ≠ [] := by
    intro e
    have hT : B.truths ≠ [] := fun e => by rw [e] at ht; cases ht
    obtain ⟨p, hp⟩ := List.exists_mem_of_ne_nil _ hT
    have : shI B.mark p.1.1 p.1.2 lo ∈ B.showL lo hi := mem_showL.2 ⟨p, hp, lo, ⟨by omega, h1⟩, rfl⟩
    rw [e] at this
    cases this
  have hE := ends_list hne (fun x hx => hb x (mem_showL.1 hx))
  have hE2 : Ends (Sh B lo hi) (loI (B.showL lo hi)) (hiI (B.showL lo hi)) := ⟨mem_showL.1 hE.1, mem_showL.1 hE.2.1, fun x hx => hE.2.2 x (mem_showL.2 hx)⟩
  refine ⟨_, _, ?_, hE2, hb _ hE2.1, hb _ hE2.2.1⟩
  unfold Wm.showsA
  rw [if_pos (by unfold inS; simp only [decide_eq_true_eq]; omega), say_yes hok ht]
theorem sh_up {m L c t t' : Int} (hm : 0 ≤ m) (hc : 0 ≤ c) (h : t ≤ t') : shI m L c t ≤ shI m L c t' := by
  have := Int.mul_le_mul_of_nonneg_left h (Int.mul_nonneg hm hc)
  unfold shI
  omega
/-- All that was told so far: nothing, or the ends of it. -/
def AllE (B : Wm) (lo t a b : Int) : Prop := (t = lo ∧ a = 1073741824 ∧ b = -1073741824) ∨ (lo < t ∧ Ends (Sh B lo (t - 1)) a b)
def LastE (B : Wm) (lo t a b : Int) : Prop := (t = lo ∧ a = -1073741824 ∧ b = -1073741824) ∨ (lo < t ∧ Ends (Sh B (t - 1) (t - 1)) a b)
theorem LastE.le {B : Wm} (hok : B.ok = true) {lo t a b u v : Int} (h : LastE B lo t a b) (hE : Ends (Sh B t t) u v) (hu : -30000 ≤ u) (hv : -30000 ≤ v) : a ≤ u ∧ b ≤ v := by
  have hL := Wm.ok_lim hok
  have hm := hL.m1
  rcases h with ⟨_, rfl, rfl⟩ | ⟨_, hP⟩
  · omega
  · constructor
    · obtain ⟨p, hp, t1, ht1, hx⟩ := hE.1
      have h1 := (hP.2.2 _ ⟨p, hp, t - 1, by omega, rfl⟩).1
      have h2 := sh_up (m := B.mark) (L := p.1.1) (c := p.1.2) (t := t - 1) (t' := t1) (by omega) p.2.2.2.1 (by omega)
      omega
    · obtain ⟨p, hp, t1, ht1, hx⟩ := hP.2.1
      have h1 := (hE.2.2 _ ⟨p, hp, t, by omega, rfl⟩).2
      have h2 := sh_up (m := B.mark) (L := p.1.1) (c := p.1.2) (t := t1) (t' := t) (by omega) p.2.2.2.1 (by omega)
      omega
theorem LastE.next {B : Wm} {lo t u v : Int} (h : lo ≤ t) (hE : Ends (Sh B t t) u v) : LastE B lo (t + 1) u v := .inr ⟨by omega, by rw [show t + 1 - 1 = t by omega]; exact hE⟩
theorem Ends.le {P : Int → Prop} {u v : Int} (h : Ends P u v) : u ≤ v := (h.2.2 _ h.1).2
theorem AllE.next {B : Wm} {lo t a b u v : Int} (h0 : lo ≤ t) (h : AllE B lo t a b) (hE : Ends (Sh B t t) u v) (hu : -30000 ≤ u ∧ u ≤ 30000) (hv : -30000 ≤ v ∧ v ≤ 30000) : AllE B lo (t + 1) (min a u) (max b v) := by
  refine .inr ⟨by omega, ?_⟩
  rw [show t + 1 - 1 = t by omega]
  have hle := hE.le
  have hup : ∀ x, Sh B t t x → Sh B lo t x := by
    rintro x ⟨p, hp, t1, ht1, rfl⟩
    exact ⟨p, hp, t1, by omega, rfl⟩
  rcases h with ⟨rfl, rfl, rfl⟩ | ⟨hlt, hP⟩
  · rw [show min 1073741824 u = u by omega, show max (-1073741824) v = v by omega]
    exact hE
  · have hup2 : ∀ x, Sh B lo (t - 1) x → Sh B lo t x := by
      rintro x ⟨p, hp, t1, ht1, rfl⟩
      exact ⟨p, hp, t1, by omega, rfl⟩
    refine ⟨?_, ?_, ?_⟩
    · rcases Int.le_total a u with h | h
      · rw [show min a u = a by omega]; exact hup2 _ hP.1
      · rw [show min a u = u by omega]; exact hup _ hE.1
    · rcases Int.le_total b v with h | h
      · rw [show max b v = v by omega]; exact hup _ hE.2.1
      · rw [show max b v = b by omega]; exact hup2 _ hP.2.1
    · rintro x ⟨p, hp, t1, ht1, rfl⟩
      by_cases e : t1 = t
      · subst e
        have := hE.2.2 _ ⟨p, hp, t1, by omega, rfl⟩
        omega
      · have := hP.2.2 _ ⟨p, hp, t1, by omega, rfl⟩
        omega
theorem AllE.stop {B : Wm} {lo t hi a b u v : Int} (h : AllE B lo t a b) (h1 : lo ≤ hi) (h2 : t = hi + 1) (hE : Ends (Sh B lo hi) u v) : a = u ∧ b = v := by
  rcases h with ⟨h, _⟩ | ⟨_, hP⟩
  · omega
  · rw [h2, show hi + 1 - 1 = hi by omega] at hP
    exact hP.same hE
/-- What the pairs before this one show: nothing, or the ends of it. -/
def OwnP (B : Wm) (lo a c x : Int) : Prop := ∃ p ∈ B.truths, (p.1.1 < a ∨ (p.1.1 = a ∧ p.1.2 < c)) ∧ x = shI B.mark p.1.1 p.1.2 lo
def OwnE (B : Wm) (lo a c u v : Int) : Prop := ((∀ x, ¬ OwnP B lo a c x) ∧ u = 1073741824 ∧ v = -1073741824) ∨ Ends (OwnP B lo a c) u v
theorem OwnE.start {B : Wm} (hok : B.ok = true) (lo : Int) : OwnE B lo B.llo B.clo 1073741824 (-1073741824) := by
  refine .inl ⟨?_, rfl, rfl⟩
  rintro x ⟨p, hp, h, _⟩
  have := truth_in hok hp
  omega
theorem OwnE.of_iff {B : Wm} {lo a c a' c' u v : Int} (h : OwnE B lo a c u v) (hi : ∀ p ∈ B.truths, (p.1.1 < a ∨ (p.1.1 = a ∧ p.1.2 < c)) ↔ (p.1.1 < a' ∨ (p.1.1 = a' ∧ p.1.2 < c'))) : OwnE B lo a' c' u v := by
  have e : OwnP B lo a c = OwnP B lo a' c' := by
    funext x
    refine propext (exists_congr fun p => and_congr_right fun hp => and_congr_left fun _ => hi p hp)
  unfold OwnE at *
  rw [← e]
  exact h
theorem OwnE.row {B : Wm} (hok : B.ok = true) {lo a c u v : Int} (h : OwnE B lo a c u v) (hc : B.chi < c) : OwnE B lo (a + 1) B.clo u v :=
  h.of_iff fun p hp => by have := truth_in hok hp; omega
theorem OwnE.skip {B : Wm} {lo a c u v : Int} (h : OwnE B lo a c u v) (hno : ∀ p ∈ B.truths, p.1 ≠ (a, c)) : OwnE B lo a (c + 1) u v :=
  h.of_iff fun p hp => by
    have : ¬ (p.1.1 = a ∧ p.1.2 = c) := fun e => hno p hp (Prod.ext e.1 e.2)
    omega
theorem OwnE.pair {B : Wm} {lo a c u v m : Int} (h : OwnE B lo a c u v) (p : Pr) (hp : p ∈ B.truths) (he : p.1 = (a, c)) (hm : m = shI B.mark a c lo) (hb : -30000 ≤ m ∧ m ≤ 30000) : OwnE B lo a (c + 1) (min u m) (max v m) := by
  have e1 : p.1.1 = a := by rw [he]
  have e2 : p.1.2 = c := by rw [he]
  have hm' : OwnP B lo a (c + 1) m := ⟨p, hp, by omega, by rw [e1, e2]; exact hm⟩
  refine .inr ?_
  have hcase : ∀ x, OwnP B lo a (c + 1) x → OwnP B lo a c x ∨ x = m := by
    rintro x ⟨q, hq, hl, rfl⟩
    by_cases e : q.1.1 = a ∧ q.1.2 = c
    · exact .inr (by rw [hm, e.1, e.2])
    · exact .inl ⟨q, hq, by omega, rfl⟩
  have hup : ∀ x, OwnP B lo a c x → OwnP B lo a (c + 1) x := by
    rintro x ⟨q, hq, hl, rfl⟩
    exact ⟨q, hq, by omega, rfl⟩
  rcases h with ⟨hno, rfl, rfl⟩ | hP
  · rw [show min 1073741824 m = m by omega, show max (-1073741824) m = m by omega]
    refine ⟨hm', hm', fun x hx => ?_⟩
    rcases hcase x hx with h | h
    · exact absurd h (hno x)
    · omega
  · have hle := hP.le
    refine ⟨?_, ?_, fun x hx => ?_⟩
    · rcases Int.le_total u m with h | h
      · rw [show min u m = u by omega]; exact hup _ hP.1
      · rw [show min u m = m by omega]; exact hm'
    · rcases Int.le_total v m with h | h
      · rw [show max v m = m by omega]; exact hm'
      · rw [show max v m = v by omega]; exact hup _ hP.2.1
    · rcases hcase x hx with h | h
      · have := hP.2.2 x h
        omega
      · omega
theorem OwnE.stop {B : Wm} (hok : B.ok = true) (ht : B.truths.isEmpty = false) {lo a c u v u' v' : Int} (h : OwnE B lo a c u v) (ha : B.lhi < a) (hE : Ends (Sh B lo lo) u' v') : u' = u ∧ v' = v := by
  have hall : ∀ p ∈ B.truths, OwnP B lo a c (shI B.mark p.1.1 p.1.2 lo) := fun p hp => ⟨p, hp, .inl (by have := truth_in hok hp; omega), rfl⟩
  rcases h with ⟨hno, _⟩ | hP
  · have hT : B.truths ≠ [] := fun e => by rw [e] at ht; cases ht
    obtain ⟨p, hp⟩ := List.exists_mem_of_ne_nil _ hT
    exact absurd (hall p hp) (hno _)
  · have hP2 : Ends (Sh B lo lo) u v := by
      refine ⟨?_, ?_, ?_⟩
      · obtain ⟨p, hp, _, hx⟩ := hP.1
        exact ⟨p, hp, lo, ⟨Int.le_refl _, Int.le_refl _⟩, hx⟩
      · obtain ⟨p, hp, _, hx⟩ := hP.2.1
        exact ⟨p, hp, lo, ⟨Int.le_refl _, Int.le_refl _⟩, hx⟩
      · rintro x ⟨p, hp, t, ht, rfl⟩
        obtain rfl : t = lo := by omega
        exact hP.2.2 _ (hall p hp)
    exact hE.same hP2
end Go.Proofs.Ytmhpgjlegajpeaa
