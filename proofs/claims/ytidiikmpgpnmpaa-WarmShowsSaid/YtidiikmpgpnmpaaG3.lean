/-
  WARM: the numbers of WarmRoom.
-/
import Derived.Test.YtidiikmpgpnmpaaG2
namespace Go.Proofs.Ytidiikmpgpnmpaa
open Go.RowKit

/-- A block of which length and coefficient are known. -/
def xB (B : Wm) (a b : Int) : Wm := { B with llo := a, lhi := a, clo := b, chi := b }
theorem xB_all (B : Wm) {a b : Int} (h : -1000 ≤ a ∧ a ≤ 1000 ∧ 0 ≤ b ∧ b ≤ 20) : (xB B a b).all = [⟨(a, b), h⟩] := by
  unfold Wm.all xB
  dsimp only
  rw [show (b + 1 - b).toNat = 1 by omega, show (a + 1 - a).toNat = 1 by omega]
  have h' : -1000 ≤ a + ((0 : Nat) : Int) ∧ a + ((0 : Nat) : Int) ≤ 1000 ∧ 0 ≤ b + ((0 : Nat) : Int) ∧ b + ((0 : Nat) : Int) ≤ 20 := by omega
  simp only [rowsTo, rowTo, List.range_succ, List.range_zero, List.nil_append, List.flatMap_cons, List.flatMap_nil, List.append_nil, List.filterMap_cons, List.filterMap_nil, mkP, dif_pos h']
  simp
theorem xB_ok {B : Wm} (hok : B.ok = true) {a b : Int} (ha : B.llo ≤ a ∧ a ≤ B.lhi) (hb : B.clo ≤ b ∧ b ≤ B.chi) : (xB B a b).ok = true := by
  have hL := Wm.ok_lim hok
  obtain ⟨m1, m2, l1, l2, l3, l4, c1, c2, c3, c4⟩ := hL
  simp only [Wm.ok, Bool.and_eq_true, decide_eq_true_eq, inS] at hok
  unfold Wm.ok xB inS
  dsimp only
  simp only [Bool.and_eq_true, decide_eq_true_eq]
  exact ⟨⟨⟨⟨m1, m2⟩, ⟨by omega, by omega, by omega⟩, by omega⟩, ⟨by omega, by omega, by omega⟩, by omega⟩, hok.2⟩
theorem pair_lim {B : Wm} (hok : B.ok = true) {a b : Int} (ha : B.llo ≤ a ∧ a ≤ B.lhi) (hb : B.clo ≤ b ∧ b ≤ B.chi) : -1000 ≤ a ∧ a ≤ 1000 ∧ 0 ≤ b ∧ b ≤ 20 := by
  obtain ⟨m1, m2, l1, l2, l3, l4, c1, c2, c3, c4⟩ := Wm.ok_lim hok
  omega
/-- Of a known pair there is one truth, if it is one. -/
theorem xB_count {B : Wm} (hok : B.ok = true) {a b : Int} (ha : B.llo ≤ a ∧ a ≤ B.lhi) (hb : B.clo ≤ b ∧ b ≤ B.chi) :
    (∃ p : Pr, p ∈ B.truths ∧ p.1 = (a, b) ∧ (xB B a b).countA = (1, 0)) ∨ ((∀ p ∈ B.truths, p.1 ≠ (a, b)) ∧ (xB B a b).countA = (0, 0)) := by
  have hl := pair_lim hok ha hb
  have ho := xB_ok hok ha hb
  have hc : (xB B a b).countA = (((([⟨(a, b), hl⟩] : List Pr).filter (okAll B.mark B.rs)).length : Int), 0) := by
    unfold Wm.countA
    rw [ho, if_pos rfl]
    unfold Wm.truths Wm.leftBy
    rw [xB_all B hl]
    rfl
  cases e : okAll B.mark B.rs ⟨(a, b), hl⟩ with
  | true =>
    refine .inl ⟨⟨(a, b), hl⟩, ?_, rfl, ?_⟩
    · unfold Wm.truths Wm.leftBy
      exact List.mem_filter.2 ⟨(Wm.mem_all (Wm.ok_lim hok)).2 ⟨ha, hb⟩, e⟩
    · rw [hc]; simp [e]
  | false =>
    refine .inr ⟨fun p hp hpe => ?_, ?_⟩
    · have h2 := (List.mem_filter.1 hp).2
      have : p = ⟨(a, b), hl⟩ := Subtype.ext hpe
      rw [this, e] at h2
      cases h2
    · rw [hc]; simp [e]
theorem widest_le (m off : Int) (ps : List Pr) : widest m off ps ≤ 100 := by
  unfold widest
  have := (List.takeWhile_sublist (fun i => roomB m off ps (i + 1)) (l := List.range 100)).length_le
  simpa using this
theorem takeWhile_at {p : Nat → Bool} {n i : Nat} (h : i < ((List.range n).takeWhile p).length) : p i = true := by
  have h1 := List.takeWhile_prefix (p := p) (l := List.range n)
  have h2 : ((List.range n).takeWhile p)[i]? = (List.range n)[i]? := by
    obtain ⟨t, ht⟩ := h1
    conv => rhs; rw [← ht]
    rw [List.getElem?_append_left h]
  have hn : i < n := by
    have := h1.length_le
    rw [List.length_range] at this
    omega
  rw [List.getElem?_range hn] at h2
  have hm := List.mem_of_getElem? h2
  exact (List.all_eq_true.1 (List.all_takeWhile (l := List.range n) (p := p))) i hm
theorem takeWhile_end {p : Nat → Bool} {n : Nat} (h : ((List.range n).takeWhile p).length < n) : p ((List.range n).takeWhile p).length = false := by
  cases e : p ((List.range n).takeWhile p).length with
  | false => rfl
  | true =>
    have hk : ((List.range n).takeWhile p).length + 1 ≤ n := h
    obtain ⟨k, hk'⟩ : ∃ k, ((List.range n).takeWhile p).length = k := ⟨_, rfl⟩
    have hall : ∀ i, i < k → p i = true := fun i hi => takeWhile_at (n := n) (by omega)
    rw [hk'] at e hk
    exfalso
    by_cases hs : k + 1 = n
    · have := takeWhile_len (p := p) (n := n) (k := k + 1) hk (fun i hi => by
        by_cases h2 : i = k
        · rw [h2]; exact e
        · exact hall i (by omega)) (.inl hs)
      omega
    · obtain ⟨d, hd⟩ := Nat.le.dest hk
      have h3 : k + 1 ≤ ((List.range n).takeWhile p).length := by
        rw [← hd, List.range_add, List.takeWhile_append_of_pos (by
          intro i hi
          rw [List.mem_range] at hi
          by_cases h2 : i = k
          · rw [h2]; exact e
          · exact hall i (by omega)), List.length_append, List.length_range]
        omega
      omega
theorem widest_stop {m off : Int} {ps : List Pr} (h : widest m off ps ≠ 100) : roomB m off ps (widest m off ps + 1) = false := by
  have := widest_le m off ps
  exact takeWhile_end (p := fun i => roomB m off ps (i + 1)) (n := 100) (by unfold widest at *; omega)
theorem widest_in {m off : Int} {ps : List Pr} {i : Nat} (h : i < widest m off ps) : roomB m off ps (i + 1) = true := takeWhile_at (p := fun i => roomB m off ps (i + 1)) (n := 100) h
theorem roomB_more {m off off' : Int} (h : off ≤ off') {ps : List Pr} {n : Nat} (hr : roomB m off ps n = true) : roomB m off' ps n = true := by
  unfold roomB at *
  rw [List.all_eq_true] at *
  intro p hp
  have := hr p hp
  unfold roomP at *
  simp only [decide_eq_true_eq] at *
  omega
theorem widest_more {m off off' : Int} (h : off ≤ off') (ps : List Pr) : widest m off ps ≤ widest m off' ps := by
  by_cases hw : widest m off' ps = 100
  · rw [hw]; exact widest_le _ _ _
  · have h1 := widest_stop hw
    by_cases hlt : widest m off' ps < widest m off ps
    · have h2 := roomB_more h (widest_in hlt)
      rw [h1] at h2
      cases h2
    · omega
theorem room_in {m off : Int} {ps : List Pr} {p : Pr} (hp : p ∈ ps) (m1 : 1 ≤ m) (h0 : 0 ≤ off) (s : Int) (hs : s = (widest m off ps : Int) ∨ s = -(widest m off ps : Int)) :
    -off ≤ shI m p.1.1 p.1.2 s - p.1.1 ∧ shI m p.1.1 p.1.2 s - p.1.1 ≤ off := by
  have hc := p.2.2.2.1
  have hmc : 0 ≤ m * p.1.2 := Int.mul_nonneg (by omega) hc
  obtain ⟨n, hn⟩ : ∃ n, widest m off ps = n := ⟨_, rfl⟩
  rw [hn] at hs
  have hup : 0 ≤ m * p.1.2 * (n : Int) := Int.mul_nonneg hmc (by omega)
  have hr : roomP m off n p = true := by
    cases n with
    | zero =>
      unfold roomP shI
      simp
      omega
    | succ n =>
      have := widest_in (m := m) (off := off) (ps := ps) (i := n) (by omega)
      exact (List.all_eq_true.1 this) p hp
  unfold roomP shI at hr
  simp only [decide_eq_true_eq] at hr
  have hneg : m * p.1.2 * (-(n : Int)) = -(m * p.1.2 * (n : Int)) := Int.mul_neg _ _
  rw [hneg] at hr
  unfold shI
  rcases hs with rfl | rfl
  · omega
  · rw [hneg]; omega
/-- All pairs before this one are within a room that is one tenth wider, or that is not so. -/
def Wid (B : Wm) (off : Int) (n : Nat) (a c : Int) (t : Bool) : Prop := t = true ∨ (n ≠ 100 ∧ ∀ p ∈ B.truths, (p.1.1 < a ∨ (p.1.1 = a ∧ p.1.2 < c)) → roomP B.mark off (n + 1) p = true)
def WidO (B : Wm) (off : Int) (n : Nat) (a : Int) (t : Bool) : Prop := t = true ∨ (n ≠ 100 ∧ ∀ p ∈ B.truths, p.1.1 < a → roomP B.mark off (n + 1) p = true)
theorem truth_in {B : Wm} (hok : B.ok = true) {p : Pr} (hp : p ∈ B.truths) : (B.llo ≤ p.1.1 ∧ p.1.1 ≤ B.lhi) ∧ B.clo ≤ p.1.2 ∧ p.1.2 ≤ B.chi := (Wm.mem_all (Wm.ok_lim hok)).1 (List.mem_filter.1 hp).1
theorem WidO.start {B : Wm} (hok : B.ok = true) (off : Int) (n : Nat) : WidO B off n B.llo (decide ((n : Int) = 100)) := by
  by_cases h : n = 100
  · exact .inl (by simp [h])
  · exact .inr ⟨h, fun p hp hl => by have := truth_in hok hp; omega⟩
theorem Wid.start {B : Wm} (hok : B.ok = true) {off : Int} {n : Nat} {a : Int} {t : Bool} (h : WidO B off n a t) : Wid B off n a B.clo t :=
  h.imp id fun h => ⟨h.1, fun p hp hl => h.2 p hp (by have := truth_in hok hp; omega)⟩
theorem Wid.stop {B : Wm} (hok : B.ok = true) {off : Int} {n : Nat} {a c : Int} {t : Bool} (h : Wid B off n a c t) (hc : B.chi < c) : WidO B off n (a + 1) t :=
  h.imp id fun h => ⟨h.1, fun p hp hl => h.2 p hp (by have := truth_in hok hp; omega)⟩
theorem Wid.skip {B : Wm} {off : Int} {n : Nat} {a c : Int} {t : Bool} (h : Wid B off n a c t) (hno : ∀ p ∈ B.truths, p.1 ≠ (a, c)) : Wid B off n a (c + 1) t :=
  h.imp id fun h => ⟨h.1, fun p hp hl => h.2 p hp (by
    by_cases e : p.1.1 = a ∧ p.1.2 = c
    · exact absurd (Prod.ext e.1 e.2) (hno p hp)
    · omega)⟩
theorem Wid.pair {B : Wm} {off : Int} {n : Nat} {a c : Int} {t : Bool} (h : Wid B off n a c t) (d1 d2 : Int) (h1 : d1 = shI B.mark a c (-((n : Int) + 1)) - a) (h2 : d2 = shI B.mark a c ((n : Int) + 1) - a) :
    Wid B off n a (c + 1) (t || decide (d1 < -off) || decide (off < d1) || decide (d2 < -off) || decide (off < d2)) := by
  cases t with
  | true => exact .inl (by simp)
  | false =>
    rcases h with h | ⟨hn, hall⟩
    · cases h
    · by_cases e : (decide (d1 < -off) || decide (off < d1) || decide (d2 < -off) || decide (off < d2)) = true
      · exact .inl (by simpa using e)
      · refine .inr ⟨hn, fun p hp hl => ?_⟩
        by_cases e2 : p.1.1 = a ∧ p.1.2 = c
        · simp only [Bool.or_eq_true, decide_eq_true_eq, not_or] at e
          unfold roomP
          simp only [decide_eq_true_eq]
          rw [e2.1, e2.2, show ((n + 1 : Nat) : Int) = (n : Int) + 1 by omega]
          omega
        · exact hall p hp (by omega)
theorem WidO.stop {B : Wm} (hok : B.ok = true) {off : Int} {a : Int} {t : Bool} (h : WidO B off (widest B.mark off B.truths) a t) (ha : B.lhi < a) : t = true := by
  rcases h with h | ⟨hn, hall⟩
  · exact h
  · have h1 := widest_stop hn
    have h2 : roomB B.mark off B.truths (widest B.mark off B.truths + 1) = true := List.all_eq_true.2 fun p hp => hall p hp (by have := truth_in hok hp; omega)
    rw [h1] at h2
    cases h2
end Go.Proofs.Ytidiikmpgpnmpaa
