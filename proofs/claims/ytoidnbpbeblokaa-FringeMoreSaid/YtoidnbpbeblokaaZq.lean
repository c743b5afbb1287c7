/-
  THE WHOLE FRINGES AND THE PARTS OF ALL TRUTHS, one length after the other: plain facts. The nearest length is one of all, and none is nearer; a reading is right of a length by its part; lengths are in spans.
-/
import Derived.Test.YtoidnbpbeblokaaYe
import Derived.Test.YtoidnbpbeblokaaWr
import Derived.Test.YtoidnbpbeblokaaWq
namespace Go.Proofs.Ytoidnbpbeblokaa

/-- A number behind others, unless it is their last one. -/
def cdStep (l : List Int) (n : Int) : List Int := if l.getLast? = some n then l else l ++ [n]
/-- Equal neighbours once. -/
def cdup (l : List Int) : List Int := l.foldl cdStep []
theorem cdup_snoc (l : List Int) (n : Int) : cdup (l ++ [n]) = cdStep (cdup l) n := by simp [cdup]
theorem cdup_last (l : List Int) (n : Int) : (cdup (l ++ [n])).getLast? = some n := by
  rw [cdup_snoc, cdStep]
  split
  · assumption
  · simp
theorem cdup_len (l : List Int) : (cdup l).length ≤ l.length := by
  induction l using snoc_ind with
  | h0 => simp [cdup]
  | h1 l n ih => rw [cdup_snoc, cdStep]; split <;> simp <;> omega
theorem compactUpTo_pre (l : List Int) (n : Int) : Lib.compactUpTo (l ++ [n]).toArray l.length = Lib.compact l := by
  unfold Lib.compact Lib.compactUpTo
  have hk : ∀ j, j < l.length → Lib.keeps (l ++ [n]).toArray j = Lib.keeps l.toArray j ∧ (l ++ [n]).toArray[j]! = l.toArray[j]! := by
    intro j hj
    have h1 : ∀ i, i < l.length → (l ++ [n]).toArray[i]! = l.toArray[i]! := by
      intro i hi
      simp [List.getElem?_append_left hi]
    refine ⟨?_, h1 j hj⟩
    unfold Lib.keeps
    rw [h1 j hj, h1 (j - 1) (by omega)]
  rw [List.filter_congr (fun j hj => (hk j (List.mem_range.1 hj)).1)]
  apply List.map_congr_left
  intro j hj
  exact (hk j (List.mem_range.1 (List.mem_filter.1 hj).1)).2
theorem compact_eq (l : List Int) : Lib.compact l = cdup l := by
  induction l using snoc_ind with
  | h0 => rfl
  | h1 l n ih =>
    have h : Lib.compact (l ++ [n]) = Lib.compactUpTo (l ++ [n]).toArray (l.length + 1) := by unfold Lib.compact; simp
    rw [h, Lib.compactUpTo_succ, compactUpTo_pre, ih, cdup_snoc, cdStep]
    have hn : (l ++ [n]).toArray[l.length]! = n := by simp
    rw [hn]
    rcases List.eq_nil_or_concat l with rfl | ⟨m, y, rfl⟩
    · simp [cdup, Lib.keeps]
    · rw [List.concat_eq_append]
      rw [cdup_last]
      have hy : (m ++ [y] ++ [n]).toArray[(m ++ [y]).length - 1]! = y := by simp
      have hn' : (m ++ [y] ++ [n]).toArray[(m ++ [y]).length]! = n := by simp
      by_cases e : y = n
      · have hk := Lib.keeps_neg (d := (m ++ [y] ++ [n]).toArray) (m := (m ++ [y]).length) (by simp) (by rw [hn', hy]; exact e.symm)
        rw [hk]
        simp [e]
      · have hk := Lib.keeps_pos (d := (m ++ [y] ++ [n]).toArray) (m := (m ++ [y]).length) (by rw [hn', hy]; exact fun h => e h.symm)
        rw [hk]
        simp [e]

theorem frs_mem {x : Int} {ts : List Ln} {f : Int × Int} (h : f ∈ frs x ts) : ∃ t ∈ ts, frcOf x (t.val : Nat) = f := by
  induction ts using snoc_ind with
  | h0 => exact absurd h List.not_mem_nil
  | h1 ts t ih =>
    rw [frs_snoc, frStep] at h
    split at h
    · obtain ⟨u, hu, e⟩ := ih h
      exact ⟨u, by simp [hu], e⟩
    · rcases List.mem_append.1 h with h | h
      · obtain ⟨u, hu, e⟩ := ih h
        exact ⟨u, by simp [hu], e⟩
      · exact ⟨t, by simp, (List.mem_singleton.1 h).symm⟩
/-- The whole fringes of the truths, one length after the other. -/
theorem whs_eq {x : Int} (hx : 1 ≤ x) (ts : List Ln) (hs : ts.Pairwise (fun a b => a.val < b.val)) : whs x ts = cdup (ts.map fun t => ((t.val : Nat) : Int) / x) := by
  unfold whs
  rw [compact_eq]
  induction ts using snoc_ind with
  | h0 => rfl
  | h1 ts t ih =>
    rw [List.pairwise_append] at hs
    obtain ⟨h1, _, h3⟩ := hs
    have ih' := ih h1
    rw [List.map_append, List.map_cons, List.map_nil, cdup_snoc, frs_snoc, frStep]
    split
    · rename_i hm
      obtain ⟨u, hu, e⟩ := frs_mem hm
      have e1 : ((u.val : Nat) : Int) / x = ((t.val : Nat) : Int) / x := congrArg Prod.fst e
      rw [ih']
      rcases List.eq_nil_or_concat ts with rfl | ⟨l, y, rfl⟩
      · exact absurd hu List.not_mem_nil
      · rw [List.concat_eq_append] at *
        have hy : ((y.val : Nat) : Int) / x = ((t.val : Nat) : Int) / x := by
          have a1 : u.val ≤ y.val := by
            rcases List.mem_append.1 hu with h | h
            · rw [List.pairwise_append] at h1
              have := h1.2.2 u h y (by simp)
              omega
            · rw [List.mem_singleton.1 h]; exact Nat.le_refl _
          have a2 := h3 y (by simp) t (by simp)
          have b1 : ((u.val : Nat) : Int) / x ≤ ((y.val : Nat) : Int) / x := Int.ediv_le_ediv (by omega) (by omega)
          have b2 : ((y.val : Nat) : Int) / x ≤ ((t.val : Nat) : Int) / x := Int.ediv_le_ediv (by omega) (by omega)
          omega
        rw [List.map_append, List.map_cons, List.map_nil, cdStep, if_pos (by rw [cdup_last, hy])]
    · rw [List.map_append, List.map_cons, List.map_nil, cdup_snoc, ih']
      rfl
theorem partSet_has {fs : List (Int × Int)} {f : Int × Int} (h : f ∈ fs) : partSet fs ||| 2 ^ f.2.toNat = partSet fs := by
  induction fs using snoc_ind with
  | h0 => exact absurd h List.not_mem_nil
  | h1 fs g ih =>
    rw [partSet_snoc]
    rcases List.mem_append.1 h with h | h
    · rw [Nat.or_assoc, Nat.or_comm (2 ^ g.2.toNat), ← Nat.or_assoc, ih h]
    · rw [List.mem_singleton.1 h, Nat.or_assoc, Nat.or_self]
/-- The set of the parts of numbers, one after the other. -/
def psOf (x : Int) (ns : List Int) : Nat := ns.foldl (fun s n => s ||| 2 ^ (20 * (n % x) / x).toNat) 0
theorem psOf_snoc (x : Int) (ns : List Int) (n : Int) : psOf x (ns ++ [n]) = psOf x ns ||| 2 ^ (20 * (n % x) / x).toNat := by simp [psOf]
theorem parts_eq (x : Int) (ts : List Ln) : partSet (frs x ts) = psOf x (ts.map fun t => ((t.val : Nat) : Int)) := by
  induction ts using snoc_ind with
  | h0 => rfl
  | h1 ts t ih =>
    rw [List.map_append, List.map_cons, List.map_nil, psOf_snoc, frs_snoc, frStep, ← ih]
    split
    · rename_i hm
      exact (partSet_has hm).symm
    · rw [partSet_snoc]
      rfl
theorem psOf_lt {x : Int} (hx : 1 ≤ x) (ns : List Int) : psOf x ns < 1048576 := by
  induction ns using snoc_ind with
  | h0 => simp [psOf]
  | h1 ns n ih =>
    rw [psOf_snoc]
    have hp := partI_bd (wv := x) (n := n) hx
    unfold partI at hp
    exact (or_pow _ _ ih (by omega)).2
end Go.Proofs.Ytoidnbpbeblokaa

namespace Go.Proofs.Ytoidnbpbeblokaa
open Go.RowKit Go.Shelf

theorem Whole_at (F : Fr) (c : Int) (w : World) (hI : F.In w) : Calls Try.prog 25 #[F.v, .int .i64 c] w fun e w' => ∃ a cap, e = .returned (.tuple #[.slice a (whoL F c).length cap, .int .i64 (colE F c)]) ∧ Ints w' a (whoL F c) ∧ Keeps w w' := by
  refine (Whole_any F c w hI).mono ?_
  rintro e w' ⟨v, k, rfl, ⟨rfl, hs⟩, hk⟩
  obtain ⟨a, cap, rfl, hs, _⟩ := hs
  exact ⟨a, cap, rfl, hs, hk⟩
theorem Lengths_at (F : Fr) (w : World) (hI : F.In w) : Calls Try.prog 27 #[F.v] w fun e w' => ∃ a cap, e = .returned (.tuple #[.slice a (lenL F).length cap, .int .i64 (lenE F)]) ∧ Sps w' a (lenL F) ∧ Keeps w w' := by
  refine (Lengths_any F w hI).mono ?_
  rintro e w' ⟨v, k, rfl, ⟨rfl, hs⟩, hk⟩
  obtain ⟨a, cap, rfl, hs⟩ := hs
  exact ⟨a, cap, rfl, hs, hk⟩

theorem span_in (F : Fr) (hok : F.ok = true) {i : Nat} (hi : i < (spansOf F.truths).length) : 0 ≤ ((spansOf F.truths)[i]?.getD (0, 0)).1 ∧ ((spansOf F.truths)[i]?.getD (0, 0)).1 ≤ ((spansOf F.truths)[i]?.getD (0, 0)).2 ∧ ((spansOf F.truths)[i]?.getD (0, 0)).2 ≤ 2000 ∧ ((spansOf F.truths)[i]?.getD (0, 0)).2 - ((spansOf F.truths)[i]?.getD (0, 0)).1 ≤ 400 := by
  obtain ⟨h1, ⟨_, h3⟩, _⟩ := spansOf_facts F.truths (truths_sorted F)
  have hm := List.getElem_mem hi
  have h4 := h3 _ hm
  have hin : ∀ n, n ∈ spanL (spansOf F.truths)[i] → F.lo ≤ n ∧ n ≤ F.hi := by
    intro n hn
    have : n ∈ flat (spansOf F.truths) := List.mem_flatMap.2 ⟨_, hm, hn⟩
    rw [h1] at this
    obtain ⟨t, ht, rfl⟩ := List.mem_map.1 this
    have := (mem_truths hok).1 ht
    exact ⟨this.1, this.2.1⟩
  have a := hin _ (mem_spanL.2 ⟨Int.le_refl _, h4⟩)
  have b := hin _ (mem_spanL.2 ⟨h4, Int.le_refl _⟩)
  obtain ⟨l1, l2, l3, l4⟩ := F.len_in hok
  rw [List.getElem?_eq_getElem hi, Option.getD_some]
  omega
theorem flat_take {L : List Sp} {k : Nat} (hk : k < L.length) : flat (L.take (k + 1)) = flat (L.take k) ++ spanL (L[k]?.getD (0, 0)) := by
  rw [List.take_succ_eq_append_getElem hk, flat_append, List.getElem?_eq_getElem hk]
  simp [flat]
theorem spanL_none (x : Int) : spanL (x, x - 1) = [] := by
  simp [spanL]
theorem spanL_len (s : Sp) : (spanL s).length = (s.2 + 1 - s.1).toNat := by simp [spanL]
theorem pre_len {L : List Sp} {k : Nat} {p q m : Int} (hk : k < L.length) (hs : L[k]?.getD (0, 0) = (p, q)) (hm : m ≤ q + 1) : (flat (L.take k) ++ spanL (p, m - 1)).length ≤ (flat L).length := by
  have h := flat_take hk
  have h2 : flat L = flat (L.take (k + 1)) ++ flat (L.drop (k + 1)) := by rw [← flat_append, List.take_append_drop]
  rw [h2, h, hs, List.length_append, List.length_append, List.length_append, spanL_len, spanL_len]
  dsimp only
  omega
/-- The whole fringes and the set of the parts, with a number more. -/
theorem cd_more (x : Int) (pre : List Int) {p m : Int} (h : p ≤ m) : cdup ((pre ++ spanL (p, m + 1 - 1)).map (· / x)) = cdStep (cdup ((pre ++ spanL (p, m - 1)).map (· / x))) (m / x) := by
  rw [show m + 1 - 1 = m by omega, spanL_more h, ← List.append_assoc, List.map_append (l₁ := pre ++ spanL (p, m - 1)), List.map_cons, List.map_nil, cdup_snoc]
theorem ps_more (x : Int) (pre : List Int) {p m : Int} (h : p ≤ m) : psOf x (pre ++ spanL (p, m + 1 - 1)) = psOf x (pre ++ spanL (p, m - 1)) ||| 2 ^ (20 * (m % x) / x).toNat := by
  rw [show m + 1 - 1 = m by omega, spanL_more h, ← List.append_assoc, psOf_snoc]
/-- Block b holds a span. -/
def TwoBox (W : World) (b : Nat) (x y : Int) : Prop := W.heap[b]? = some (.cells #[.int .i64 x, .int .i64 y] 24 (0, 0))
theorem TwoBox.lt {W : World} {b : Nat} {x y : Int} (h : TwoBox W b x y) : b < W.heap.size := (Array.getElem?_eq_some_iff.1 h).1
theorem TwoBox.c0 {W : World} {b : Nat} {x y : Int} (h : TwoBox W b x y) : W.cell? ⟨b, 0, none⟩ = some (.int .i64 x) := by simp [World.cell?, show W.heap[b]? = _ from h]
theorem TwoBox.c1 {W : World} {b : Nat} {x y : Int} (h : TwoBox W b x y) : W.cell? ⟨b, 1, none⟩ = some (.int .i64 y) := by simp [World.cell?, show W.heap[b]? = _ from h]
theorem TwoBox.new (W : World) (x y : Int) : TwoBox (W.alloc (.cells #[.int .i64 x, .int .i64 y] 24)) W.heap.size x y := World.alloc_heap_new W _
theorem TwoBox.keep {W W' : World} {b : Nat} {x y : Int} (h : TwoBox W b x y) (k : Keeps W W') : TwoBox W' b x y := (k.heap h.lt).trans h
theorem TwoBox.kept {W W' : World} {row : Option Nat} {b : Nat} {x y : Int} (h : TwoBox W b x y) (hg : W.grownBy W' row) (hne : some b ≠ row) : TwoBox W' b x y := (hg.block b h.lt hne).trans h
theorem TwoBox.alloc {W : World} {b : Nat} {x y : Int} (h : TwoBox W b x y) (o : Obj) : TwoBox (W.alloc o) b x y := h.kept (World.grownBy_alloc W o none) (by simp)
theorem TwoBox.not_row {W : World} {b : Nat} {x y : Int} (h : TwoBox W b x y) {base size k : Nat} {v : Value} {xs : List Value} (hr : W.ownsRow base 3 size v k xs) : some b ≠ v.ownBlock := by
  rcases hr.2 with ⟨rfl, _⟩ | ⟨g, cap, cur, rfl, _, hgb, _⟩
  · simp [Value.ownBlock]
  · intro e'
    obtain rfl : b = g := by simpa [Value.ownBlock] using e'
    have := (show W.heap[b]? = _ from h).symm.trans hgb
    simp at this
theorem nearGo_facts (wish : Int) : ∀ (xs : List Ln) (best : Int), (∀ x ∈ xs, best < ((x.val : Nat) : Int)) → xs.Pairwise (fun a b => a.val < b.val) →
    (nearGo wish best xs = best ∨ ∃ x ∈ xs, nearGo wish best xs = ((x.val : Nat) : Int)) ∧ (dist (nearGo wish best xs) wish ≤ dist best wish ∧ (dist (nearGo wish best xs) wish = dist best wish → nearGo wish best xs ≤ best)) ∧
      ∀ y ∈ xs, dist (nearGo wish best xs) wish ≤ dist ((y.val : Nat) : Int) wish ∧ (dist (nearGo wish best xs) wish = dist ((y.val : Nat) : Int) wish → nearGo wish best xs ≤ ((y.val : Nat) : Int)) := by
  intro xs
  induction xs with
  | nil => intro best _ _; exact ⟨.inl rfl, ⟨Int.le_refl _, fun _ => Int.le_refl _⟩, fun y hy => absurd hy List.not_mem_nil⟩
  | cons x xs ih =>
    intro best hb hs
    have hbx := hb x List.mem_cons_self
    rw [List.pairwise_cons] at hs
    have hx : ∀ y ∈ xs, ((x.val : Nat) : Int) < ((y.val : Nat) : Int) := fun y hy => by have := hs.1 y hy; omega
    by_cases hd : dist ((x.val : Nat) : Int) wish < dist best wish
    · rw [nearGo, if_pos hd]
      obtain ⟨i1, ⟨i2, i3⟩, i4⟩ := ih _ hx hs.2
      refine ⟨.inr ?_, ⟨by omega, fun h => by omega⟩, fun y hy => ?_⟩
      · rcases i1 with h | ⟨y, hy, h⟩
        · exact ⟨x, List.mem_cons_self, h⟩
        · exact ⟨y, List.mem_cons_of_mem _ hy, h⟩
      · rcases List.mem_cons.1 hy with rfl | hy
        · exact ⟨i2, i3⟩
        · exact i4 y hy
    · rw [nearGo, if_neg hd]
      refine ⟨.inl rfl, ⟨Int.le_refl _, fun _ => Int.le_refl _⟩, fun y hy => ?_⟩
      have hby := hb y hy
      have hxy : ((x.val : Nat) : Int) ≤ ((y.val : Nat) : Int) := by
        rcases List.mem_cons.1 hy with rfl | hy
        · exact Int.le_refl _
        · exact Int.le_of_lt (hx y hy)
      refine ⟨?_, fun _ => Int.le_of_lt hby⟩
      unfold dist at hd ⊢
      split <;> split <;> (try split at hd) <;> (try split at hd) <;> omega
theorem near_facts (wish : Int) (ts : List Ln) (hs : ts.Pairwise (fun a b => a.val < b.val)) (hne : ts ≠ []) :
    (∃ x ∈ ts, near wish ts = ((x.val : Nat) : Int)) ∧ ∀ y ∈ ts, dist (near wish ts) wish ≤ dist ((y.val : Nat) : Int) wish ∧ (dist (near wish ts) wish = dist ((y.val : Nat) : Int) wish → near wish ts ≤ ((y.val : Nat) : Int)) := by
  rcases ts with _ | ⟨x, xs⟩
  · exact absurd rfl hne
  · rw [List.pairwise_cons] at hs
    obtain ⟨i1, i2, i3⟩ := nearGo_facts wish xs x.val (fun y hy => by have := hs.1 y hy; omega) hs.2
    refine ⟨?_, fun y hy => ?_⟩
    · rcases i1 with h | ⟨y, hy, h⟩
      · exact ⟨x, List.mem_cons_self, h⟩
      · exact ⟨y, List.mem_cons_of_mem _ hy, h⟩
    · rcases List.mem_cons.1 hy with rfl | hy
      · exact i2
      · exact i3 y hy
theorem dist_max (a b : Int) : max (a - b) (b - a) = dist a b := by unfold dist; split <;> omega

/-- Is a part within a reading's, whichever way round? -/
def okR (lo hi p : Int) : Bool := decide (lo ≤ p ∧ p ≤ hi ∨ lo ≤ p + 20 ∧ p + 20 ≤ hi)
theorem okR_right {wv lo hi n : Int} (hw : 1 ≤ wv) (hv : vPart lo hi = true) : okR lo hi (partI wv n) = rightB (wv, lo, hi) n := by
  have hb := partI_bd (wv := wv) (n := n) hw
  simp only [vPart, decide_eq_true_eq] at hv
  unfold okR rightB plainB roundB
  dsimp only
  split
  · rw [Bool.eq_iff_iff]; simp; omega
  · rw [Bool.eq_iff_iff]; simp; omega
/-- Are the first k readings right of a length? -/
def allR (F : Fr) (n : Int) (k : Nat) : Bool := (F.gs.take k).all (rightB · n)
theorem allR_zero (F : Fr) (n : Int) : allR F n 0 = true := rfl
theorem allR_succ (F : Fr) (hok : F.ok = true) (n : Int) {k : Nat} (hk : k < F.rs.length) : allR F n (k + 1) = (allR F n k && okR (F.rs[k]?.getD (0, 0, 0)).2.1 (F.rs[k]?.getD (0, 0, 0)).2.2 (20 * (n % (F.ws[(F.rs[k]?.getD (0, 0, 0)).1.toNat]?.getD 0)) / (F.ws[(F.rs[k]?.getD (0, 0, 0)).1.toNat]?.getD 0))) := by
  have hr := F.rd_in hok hk
  have hw := F.wave_in hok (c := (F.rs[k]?.getD (0, 0, 0)).1.toNat) (by omega)
  have hk' : k < F.gs.length := by simpa [Fr.gs] using hk
  unfold allR
  rw [List.take_succ_eq_append_getElem hk', List.all_append, List.all_cons, List.all_nil, Bool.and_true]
  congr 1
  have e : F.gs[k] = rgOf F.ws (F.rs[k]?.getD (0, 0, 0)) := by
    simp [Fr.gs, List.getElem?_eq_getElem hk]
  rw [e, rgOf, ← okR_right (by omega) hr.2.2]
  rfl
theorem allR_all (F : Fr) (hok : F.ok = true) {n : Int} (h1 : F.lo ≤ n) (h2 : n ≤ F.hi) : allR F n F.rs.length = decide (n ∈ F.truths.map fun x => ((x.val : Nat) : Int)) := by
  obtain ⟨l1, l2, l3, l4⟩ := F.len_in hok
  obtain ⟨m, rfl⟩ := Int.eq_ofNat_of_zero_le (show 0 ≤ n by omega)
  have e : F.gs.take F.rs.length = F.gs := List.take_of_length_le (by simp [Fr.gs])
  rw [allR, e, Bool.eq_iff_iff, decide_eq_true_eq, List.mem_map]
  constructor
  · intro h
    exact ⟨(⟨m, by omega⟩ : Ln), (mem_truths hok).2 ⟨h1, h2, h⟩, rfl⟩
  · rintro ⟨x, hx, e⟩
    have := ((mem_truths hok).1 hx).2.2
    rw [e] at this
    exact this

/-- Is a number in the first k spans? -/
def inFlat (L : List Sp) (n : Int) (k : Nat) : Bool := decide (n ∈ flat (L.take k))
theorem inFlat_zero (L : List Sp) (n : Int) : inFlat L n 0 = false := by simp [inFlat, flat]
theorem inFlat_succ {L : List Sp} {n : Int} {k : Nat} (hk : k < L.length) : inFlat L n (k + 1) = (inFlat L n k || decide ((L[k]?.getD (0, 0)).1 ≤ n ∧ n ≤ (L[k]?.getD (0, 0)).2)) := by
  unfold inFlat
  rw [flat_take hk, Bool.eq_iff_iff]
  simp [mem_spanL]
theorem many_succ {L : List Sp} {k : Nat} (hk : k < L.length) (h : (L[k]?.getD (0, 0)).1 ≤ (L[k]?.getD (0, 0)).2) : (((flat (L.take (k + 1))).length : Nat) : Int) = ((flat (L.take k)).length : Nat) + ((L[k]?.getD (0, 0)).2 - (L[k]?.getD (0, 0)).1 + 1) := by
  rw [flat_take hk, List.length_append, spanL_len]
  omega
theorem flat_le {L : List Sp} (k : Nat) : (flat (L.take k)).length ≤ (flat L).length := by
  have h2 : flat L = flat (L.take k) ++ flat (L.drop k) := by rw [← flat_append, List.take_append_drop]
  rw [h2, List.length_append]; omega
theorem apart_next {L : List Sp} (h : Apart L) {k : Nat} (hk : k + 1 < L.length) : (L[k]?.getD (0, 0)).2 + 1 < (L[k + 1]?.getD (0, 0)).1 := by
  have := List.pairwise_iff_getElem.1 h.1 k (k + 1) (by omega) hk (by omega)
  rw [List.getElem?_eq_getElem hk, List.getElem?_eq_getElem (show k < L.length by omega)]
  exact this
theorem span_mem {L : List Sp} {k : Nat} (hk : k < L.length) {n : Int} (h1 : (L[k]?.getD (0, 0)).1 ≤ n) (h2 : n ≤ (L[k]?.getD (0, 0)).2) : n ∈ flat L := by
  rw [List.getElem?_eq_getElem hk] at h1 h2
  exact List.mem_flatMap.2 ⟨L[k], List.getElem_mem hk, mem_spanL.2 ⟨h1, h2⟩⟩
/-- The facts of the nearest length, about the numbers of the spans. -/
theorem near_flat (F : Fr) (hne : F.truths ≠ []) (wish : Int) : near wish F.truths ∈ flat (spansOf F.truths) ∧ ∀ n ∈ flat (spansOf F.truths), dist (near wish F.truths) wish ≤ dist n wish ∧ (dist (near wish F.truths) wish = dist n wish → near wish F.truths ≤ n) := by
  obtain ⟨h1, h2⟩ := near_facts wish F.truths (truths_sorted F) hne
  rw [(spansOf_facts F.truths (truths_sorted F)).1]
  constructor
  · obtain ⟨x, hx, e⟩ := h1
    exact List.mem_map.2 ⟨x, hx, e.symm⟩
  · intro n hn
    obtain ⟨x, hx, rfl⟩ := List.mem_map.1 hn
    exact h2 x hx
end Go.Proofs.Ytoidnbpbeblokaa
