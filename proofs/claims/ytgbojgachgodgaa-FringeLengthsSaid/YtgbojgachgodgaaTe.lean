/-
  FringeLengths, its numbers: the nearest length is one of all, and none is nearer; a reading is right of a length by its part; lengths are in spans.
-/
import Derived.Test.YtgbojgachgodgaaWq
import Derived.Test.YtgbojgachgodgaaZr
namespace Go.Proofs.Ytgbojgachgodgaa

theorem nearGo_facts (wish : Int) : ∀ (xs : List Ln) (best : Int), (∀ x ∈ xs, best < ((x.val : Nat) : Int)) → xs.Pairwise (fun a b => a.val < b.val) →
    (nearGo wish best xs = best ∨ ∃ x ∈ xs, nearGo wish best xs = ((x.val : Nat) : Int)) ∧ (dist (nearGo wish best xs) wish ≤ dist best wish ∧ (dist (nearGo wish best xs) wish = dist best wish → nearGo wish best xs ≤ best)) ∧
      ∀ y ∈ xs, dist (nearGo wish best xs) wish ≤ dist ((y.val : Nat) : Int) wish ∧ (dist (nearGo wish best xs) wish = dist ((y.val : Nat) : Int) wish → nearGo wish best xs ≤ ((y.val : Nat) : Int)) := by
  intro xs
  induction xs with
  | nil => intro best _ _; exact ⟨.inl rfl, ⟨Int.le_refl _, fun _ => Int.le_refl _⟩, fun y hy => absurd hy List.not_mem_nil⟩
  | cons x xs ih =>
    intro best hb hs
    have hbx := hb x List.mem_cons_self
    rw [List.pairwise_cons] at hs
    have hx : ∀ y ∈ xs, ((x.val : Nat) : Int) < ((y.val : Nat) : Int) := fun y hy => by have := hs.1 y hy; omega
    by_cases hd : dist ((x.val : Nat) : Int) wish < dist best wish
    · rw [nearGo, if_pos hd]
      obtain ⟨i1, ⟨i2, i3⟩, i4⟩ := ih _ hx hs.2
      refine ⟨.inr ?_, ⟨by omega, fun h => by omega⟩, fun y hy => ?_⟩
      · rcases i1 with h | ⟨y, hy, h⟩
        · exact ⟨x, List.mem_cons_self, h⟩
        · exact ⟨y, List.mem_cons_of_mem _ hy, h⟩
      · rcases List.mem_cons.1 hy with rfl | hy
        · exact ⟨i2, i3⟩
        · exact i4 y hy
    · rw [nearGo, if_neg hd]
      refine ⟨.inl rfl, ⟨Int.le_refl _, fun _ => Int.le_refl _⟩, fun y hy => ?_⟩
      have hby := hb y hy
      have hxy : ((x.val : Nat) : Int) ≤ ((y.val : Nat) : Int) := by
        rcases List.mem_cons.1 hy with rfl | hy
        · exact Int.le_refl _
        · exact Int.le_of_lt (hx y hy)
      refine ⟨?_, fun _ => Int.le_of_lt hby⟩
      unfold dist at hd ⊢
      split <;> split <;> (try split at hd) <;> (try split at hd) <;> omega
theorem near_facts (wish : Int) (ts : List Ln) (hs : ts.Pairwise (fun a b => a.val < b.val)) (hne : ts ≠ []) :
    (∃ x ∈ ts, near wish ts = ((x.val : Nat) : Int)) ∧ ∀ y ∈ ts, dist (near wish ts) wish ≤ dist ((y.val : Nat) : Int) wish ∧ (dist (near wish ts) wish = dist ((y.val : Nat) : Int) wish → near wish ts ≤ ((y.val : Nat) : Int)) := by
  rcases ts with _ | ⟨x, xs⟩
  · exact absurd rfl hne
  · rw [List.pairwise_cons] at hs
    obtain ⟨i1, i2, i3⟩ := nearGo_facts wish xs x.val (fun y hy => by have := hs.1 y hy; omega) hs.2
    refine ⟨?_, fun y hy => ?_⟩
    · rcases i1 with h | ⟨y, hy, h⟩
      · exact ⟨x, List.mem_cons_self, h⟩
      · exact ⟨y, List.mem_cons_of_mem _ hy, h⟩
    · rcases List.mem_cons.1 hy with rfl | hy
      · exact i2
      · exact i3 y hy
theorem dist_max (a b : Int) : max (a - b) (b - a) = dist a b := by unfold dist; split <;> omega

/-- Is a part within a reading's, whichever way round? -/
def okR (lo hi p : Int) : Bool := decide (lo ≤ p ∧ p ≤ hi ∨ lo ≤ p + 20 ∧ p + 20 ≤ hi)
theorem okR_right {wv lo hi n : Int} (hw : 1 ≤ wv) (hv : vPart lo hi = true) : okR lo hi (partI wv n) = rightB (wv, lo, hi) n := by
  have hb := partI_bd (wv := wv) (n := n) hw
  simp only [vPart, decide_eq_true_eq] at hv
  unfold okR rightB plainB roundB
  dsimp only
  split
  · rw [Bool.eq_iff_iff]; simp; omega
  · rw [Bool.eq_iff_iff]; simp; omega
/-- Are the first k readings right of a length? -/
def allR (F : Fr) (n : Int) (k : Nat) : Bool := (F.gs.take k).all (rightB · n)
theorem allR_zero (F : Fr) (n : Int) : allR F n 0 = true := rfl
theorem allR_succ (F : Fr) (hok : F.ok = true) (n : Int) {k : Nat} (hk : k < F.rs.length) : allR F n (k + 1) = (allR F n k && okR (F.rs[k]?.getD (0, 0, 0)).2.1 (F.rs[k]?.getD (0, 0, 0)).2.2 (20 * (n % (F.ws[(F.rs[k]?.getD (0, 0, 0)).1.toNat]?.getD 0)) / (F.ws[(F.rs[k]?.getD (0, 0, 0)).1.toNat]?.getD 0))) := by
  have hr := F.rd_in hok hk
  have hw := F.wave_in hok (c := (F.rs[k]?.getD (0, 0, 0)).1.toNat) (by omega)
  have hk' : k < F.gs.length := by simpa [Fr.gs] using hk
  unfold allR
  rw [List.take_succ_eq_append_getElem hk', List.all_append, List.all_cons, List.all_nil, Bool.and_true]
  congr 1
  have e : F.gs[k] = rgOf F.ws (F.rs[k]?.getD (0, 0, 0)) := by
    simp [Fr.gs, List.getElem?_eq_getElem hk]
  rw [e, rgOf, ← okR_right (by omega) hr.2.2]
  rfl
theorem allR_all (F : Fr) (hok : F.ok = true) {n : Int} (h1 : F.lo ≤ n) (h2 : n ≤ F.hi) : allR F n F.rs.length = decide (n ∈ F.truths.map fun x => ((x.val : Nat) : Int)) := by
  obtain ⟨l1, l2, l3, l4⟩ := F.len_in hok
  obtain ⟨m, rfl⟩ := Int.eq_ofNat_of_zero_le (show 0 ≤ n by omega)
  have e : F.gs.take F.rs.length = F.gs := List.take_of_length_le (by simp [Fr.gs])
  rw [allR, e, Bool.eq_iff_iff, decide_eq_true_eq, List.mem_map]
  constructor
  · intro h
    exact ⟨(⟨m, by omega⟩ : Ln), (mem_truths hok).2 ⟨h1, h2, h⟩, rfl⟩
  · rintro ⟨x, hx, e⟩
    have := ((mem_truths hok).1 hx).2.2
    rw [e] at this
    exact this

/-- Is a number in the first k spans? -/
def inFlat (L : List Sp) (n : Int) (k : Nat) : Bool := decide (n ∈ flat (L.take k))
theorem inFlat_zero (L : List Sp) (n : Int) : inFlat L n 0 = false := by simp [inFlat, flat]
theorem inFlat_succ {L : List Sp} {n : Int} {k : Nat} (hk : k < L.length) : inFlat L n (k + 1) = (inFlat L n k || decide ((L[k]?.getD (0, 0)).1 ≤ n ∧ n ≤ (L[k]?.getD (0, 0)).2)) := by
  unfold inFlat
  rw [flat_take hk, Bool.eq_iff_iff]
  simp [mem_spanL]
theorem many_succ {L : List Sp} {k : Nat} (hk : k < L.length) (h : (L[k]?.getD (0, 0)).1 ≤ (L[k]?.getD (0, 0)).2) : (((flat (L.take (k + 1))).length : Nat) : Int) = ((flat (L.take k)).length : Nat) + ((L[k]?.getD (0, 0)).2 - (L[k]?.getD (0, 0)).1 + 1) := by
  rw [flat_take hk, List.length_append, spanL_len]
  omega
theorem flat_le {L : List Sp} (k : Nat) : (flat (L.take k)).length ≤ (flat L).length := by
  have h2 : flat L = flat (L.take k) ++ flat (L.drop k) := by rw [← flat_append, List.take_append_drop]
  rw [h2, List.length_append]; omega
theorem apart_next {L : List Sp} (h : Apart L) {k : Nat} (hk : k + 1 < L.length) : (L[k]?.getD (0, 0)).2 + 1 < (L[k + 1]?.getD (0, 0)).1 := by
  have := List.pairwise_iff_getElem.1 h.1 k (k + 1) (by omega) hk (by omega)
  rw [List.getElem?_eq_getElem hk, List.getElem?_eq_getElem (show k < L.length by omega)]
  exact this
theorem span_mem {L : List Sp} {k : Nat} (hk : k < L.length) {n : Int} (h1 : (L[k]?.getD (0, 0)).1 ≤ n) (h2 : n ≤ (L[k]?.getD (0, 0)).2) : n ∈ flat L := by
  rw [List.getElem?_eq_getElem hk] at h1 h2
  exact List.mem_flatMap.2 ⟨L[k], List.getElem_mem hk, mem_spanL.2 ⟨h1, h2⟩⟩
/-- The facts of the nearest length, about the numbers of the spans. -/
theorem near_flat (F : Fr) (hne : F.truths ≠ []) (wish : Int) : near wish F.truths ∈ flat (spansOf F.truths) ∧ ∀ n ∈ flat (spansOf F.truths), dist (near wish F.truths) wish ≤ dist n wish ∧ (dist (near wish F.truths) wish = dist n wish → near wish F.truths ≤ n) := by
  obtain ⟨h1, h2⟩ := near_facts wish F.truths (truths_sorted F) hne
  rw [(spansOf_facts F.truths (truths_sorted F)).1]
  constructor
  · obtain ⟨x, hx, e⟩ := h1
    exact List.mem_map.2 ⟨x, hx, e.symm⟩
  · intro n hn
    obtain ⟨x, hx, rfl⟩ := List.mem_map.1 hn
    exact h2 x hx
end Go.Proofs.Ytgbojgachgodgaa
