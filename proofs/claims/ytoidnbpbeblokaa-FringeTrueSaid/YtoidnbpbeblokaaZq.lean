/-
  THE WHOLE FRINGES AND THE PARTS OF ALL TRUTHS, one length after the other: plain facts.
-/
import Derived.Test.YtoidnbpbeblokaaYe
import Derived.Test.YtoidnbpbeblokaaWr
namespace Go.Proofs.Ytoidnbpbeblokaa

/-- A number behind others, unless it is their last one. -/
def cdStep (l : List Int) (n : Int) : List Int := if l.getLast? = some n then l else l ++ [n]
/-- Equal neighbours once. -/
def cdup (l : List Int) : List Int := l.foldl cdStep []
theorem cdup_snoc (l : List Int) (n : Int) : cdup (l ++ [n]) = cdStep (cdup l) n := by simp [cdup]
theorem cdup_last (l : List Int) (n : Int) : (cdup (l ++ [n])).getLast? = some n := by
  rw [cdup_snoc, cdStep]
  split
  · assumption
  · simp
theorem cdup_len (l : List Int) : (cdup l).length ≤ l.length := by
  induction l using snoc_ind with
  | h0 => simp [cdup]
  | h1 l n ih => rw [cdup_snoc, cdStep]; split <;> simp <;> omega
theorem compactUpTo_pre (l : List Int) (n : Int) : Lib.compactUpTo (l ++ [n]).toArray l.length = Lib.compact l := by
  unfold Lib.compact Lib.compactUpTo
  have hk : ∀ j, j < l.length → Lib.keeps (l ++ [n]).toArray j = Lib.keeps l.toArray j ∧ (l ++ [n]).toArray[j]! = l.toArray[j]! := by
    intro j hj
    have h1 : ∀ i, i < l.length → (l ++ [n]).toArray[i]! = l.toArray[i]! := by
      intro i hi
      simp [List.getElem?_append_left hi]
    refine ⟨?_, h1 j hj⟩
    unfold Lib.keeps
    rw [h1 j hj, h1 (j - 1) (by omega)]
  rw [List.filter_congr (fun j hj => (hk j (List.mem_range.1 hj)).1)]
  apply List.map_congr_left
  intro j hj
  exact (hk j (List.mem_range.1 (List.mem_filter.1 hj).1)).2
theorem compact_eq (l : List Int) : Lib.compact l = cdup l := by
  induction l using snoc_ind with
  | h0 => rfl
  | h1 l n ih =>
    have h : Lib.compact (l ++ [n]) = Lib.compactUpTo (l ++ [n]).toArray (l.length + 1) := by unfold Lib.compact; simp
    rw [h, Lib.compactUpTo_succ, compactUpTo_pre, ih, cdup_snoc, cdStep]
    have hn : (l ++ [n]).toArray[l.length]! = n := by simp
    rw [hn]
    rcases List.eq_nil_or_concat l with rfl | ⟨m, y, rfl⟩
    · simp [cdup, Lib.keeps]
    · rw [List.concat_eq_append]
      rw [cdup_last]
      have hy : (m ++ [y] ++ [n]).toArray[(m ++ [y]).length - 1]! = y := by simp
      have hn' : (m ++ [y] ++ [n]).toArray[(m ++ [y]).length]! = n := by simp
      by_cases e : y = n
      · have hk := Lib.keeps_neg (d := (m ++ [y] ++ [n]).toArray) (m := (m ++ [y]).length) (by simp) (by rw [hn', hy]; exact e.symm)
        rw [hk]
        simp [e]
      · have hk := Lib.keeps_pos (d := (m ++ [y] ++ [n]).toArray) (m := (m ++ [y]).length) (by rw [hn', hy]; exact fun h => e h.symm)
        rw [hk]
        simp [e]

theorem frs_mem {x : Int} {ts : List Ln} {f : Int × Int} (h : f ∈ frs x ts) : ∃ t ∈ ts, frcOf x (t.val : Nat) = f := by
  induction ts using snoc_ind with
  | h0 => exact absurd h List.not_mem_nil
  | h1 ts t ih =>
    rw [frs_snoc, frStep] at h
    split at h
    · obtain ⟨u, hu, e⟩ := ih h
      exact ⟨u, by simp [hu], e⟩
    · rcases List.mem_append.1 h with h | h
      · obtain ⟨u, hu, e⟩ := ih h
        exact ⟨u, by simp [hu], e⟩
      · exact ⟨t, by simp, (List.mem_singleton.1 h).symm⟩
/-- The whole fringes of the truths, one length after the other. -/
theorem whs_eq {x : Int} (hx : 1 ≤ x) (ts : List Ln) (hs : ts.Pairwise (fun a b => a.val < b.val)) : whs x ts = cdup (ts.map fun t => ((t.val : Nat) : Int) / x) := by
  unfold whs
  rw [compact_eq]
  induction ts using snoc_ind with
  | h0 => rfl
  | h1 ts t ih =>
    rw [List.pairwise_append] at hs
    obtain ⟨h1, _, h3⟩ := hs
    have ih' := ih h1
    rw [List.map_append, List.map_cons, List.map_nil, cdup_snoc, frs_snoc, frStep]
    split
    · rename_i hm
      obtain ⟨u, hu, e⟩ := frs_mem hm
      have e1 : ((u.val : Nat) : Int) / x = ((t.val : Nat) : Int) / x := congrArg Prod.fst e
      rw [ih']
      rcases List.eq_nil_or_concat ts with rfl | ⟨l, y, rfl⟩
      · exact absurd hu List.not_mem_nil
      · rw [List.concat_eq_append] at *
        have hy : ((y.val : Nat) : Int) / x = ((t.val : Nat) : Int) / x := by
          have a1 : u.val ≤ y.val := by
            rcases List.mem_append.1 hu with h | h
            · rw [List.pairwise_append] at h1
              have := h1.2.2 u h y (by simp)
              omega
            · rw [List.mem_singleton.1 h]; exact Nat.le_refl _
          have a2 := h3 y (by simp) t (by simp)
          have b1 : ((u.val : Nat) : Int) / x ≤ ((y.val : Nat) : Int) / x := Int.ediv_le_ediv (by omega) (by omega)
          have b2 : ((y.val : Nat) : Int) / x ≤ ((t.val : Nat) : Int) / x := Int.ediv_le_ediv (by omega) (by omega)
          omega
        rw [List.map_append, List.map_cons, List.map_nil, cdStep, if_pos (by rw [cdup_last, hy])]
    · rw [List.map_append, List.map_cons, List.map_nil, cdup_snoc, ih']
      rfl
theorem partSet_has {fs : List (Int × Int)} {f : Int × Int} (h : f ∈ fs) : partSet fs ||| 2 ^ f.2.toNat = partSet fs := by
  induction fs using snoc_ind with
  | h0 => exact absurd h List.not_mem_nil
  | h1 fs g ih =>
    rw [partSet_snoc]
    rcases List.mem_append.1 h with h | h
    · rw [Nat.or_assoc, Nat.or_comm (2 ^ g.2.toNat), ← Nat.or_assoc, ih h]
    · rw [List.mem_singleton.1 h, Nat.or_assoc, Nat.or_self]
/-- The set of the parts of numbers, one after the other. -/
def psOf (x : Int) (ns : List Int) : Nat := ns.foldl (fun s n => s ||| 2 ^ (20 * (n % x) / x).toNat) 0
theorem psOf_snoc (x : Int) (ns : List Int) (n : Int) : psOf x (ns ++ [n]) = psOf x ns ||| 2 ^ (20 * (n % x) / x).toNat := by simp [psOf]
theorem parts_eq (x : Int) (ts : List Ln) : partSet (frs x ts) = psOf x (ts.map fun t => ((t.val : Nat) : Int)) := by
  induction ts using snoc_ind with
  | h0 => rfl
  | h1 ts t ih =>
    rw [List.map_append, List.map_cons, List.map_nil, psOf_snoc, frs_snoc, frStep, ← ih]
    split
    · rename_i hm
      exact (partSet_has hm).symm
    · rw [partSet_snoc]
      rfl
theorem psOf_lt {x : Int} (hx : 1 ≤ x) (ns : List Int) : psOf x ns < 1048576 := by
  induction ns using snoc_ind with
  | h0 => simp [psOf]
  | h1 ns n ih =>
    rw [psOf_snoc]
    have hp := partI_bd (wv := x) (n := n) hx
    unfold partI at hp
    exact (or_pow _ _ ih (by omega)).2
end Go.Proofs.Ytoidnbpbeblokaa
