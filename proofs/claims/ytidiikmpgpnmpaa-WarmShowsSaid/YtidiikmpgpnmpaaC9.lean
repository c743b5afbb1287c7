/-
  WARM: mostAlike: of how many pairs of a set the same number is shown at a warmth, at most.
-/
import Derived.Maps.RangeWalk
import Derived.Maps.Keyed
import Derived.Maps.OwnIn
import Derived.Test.YtidiikmpgpnmpaaA7
import Derived.Test.YtidiikmpgpnmpaaB9
namespace Go.Proofs.Ytidiikmpgpnmpaa
open Go.RowKit Go.Maps

/-- How many of these pairs show a number. -/
def cnt (f : Pr → Int) (l : List Pr) (z : Int) : Nat := (l.filter (fun p => f p == z)).length
theorem cnt_snoc (f : Pr → Int) (l : List Pr) (p : Pr) (z : Int) : cnt f (l ++ [p]) z = cnt f l z + if f p = z then 1 else 0 := by
  unfold cnt
  rw [List.filter_append, List.length_append]
  by_cases h : f p = z <;> simp [h]
theorem cnt_perm (f : Pr → Int) {l l' : List Pr} (h : l.Perm l') (z : Int) : cnt f l z = cnt f l' z := (h.filter _).length_eq
/-- The greatest of these numbers is n. -/
def IsMost (f : Pr → Int) (l : List Pr) (n : Nat) : Prop := (∀ z, cnt f l z ≤ n) ∧ (n = 0 ∨ ∃ z, cnt f l z = n)
theorem IsMost.uniq {f : Pr → Int} {l : List Pr} {n n' : Nat} (h : IsMost f l n) (h' : IsMost f l n') : n = n' := by
  obtain ⟨a, b⟩ := h
  obtain ⟨a', b'⟩ := h'
  rcases b with b | ⟨z, hz⟩ <;> rcases b' with b' | ⟨z', hz'⟩
  · omega
  · have := a z'; omega
  · have := a' z; omega
  · have := a z'; have := a' z; omega
theorem IsMost.perm {f : Pr → Int} {l l' : List Pr} {n : Nat} (h : IsMost f l n) (hp : l.Perm l') : IsMost f l' n := by
  obtain ⟨a, b⟩ := h
  exact ⟨fun z => by rw [← cnt_perm f hp]; exact a z, b.imp id (fun ⟨z, hz⟩ => ⟨z, by rw [← cnt_perm f hp]; exact hz⟩)⟩
theorem IsMost.step {f : Pr → Int} {l : List Pr} {n : Nat} (h : IsMost f l n) (p : Pr) : IsMost f (l ++ [p]) (max n (cnt f l (f p) + 1)) := by
  obtain ⟨a, b⟩ := h
  refine ⟨fun z => ?_, .inr ?_⟩
  · rw [cnt_snoc]
    have := a z
    split
    · rename_i e; subst e; omega
    · omega
  · by_cases hm : n ≤ cnt f l (f p) + 1
    · exact ⟨f p, by rw [cnt_snoc, if_pos rfl]; omega⟩
    · rcases b with b | ⟨z, hz⟩
      · omega
      · refine ⟨z, ?_⟩
        rw [cnt_snoc, if_neg]
        · omega
        · intro e; subst e; omega
def alikeN (f : Pr → Int) (l : List Pr) : Nat := (l.map (fun p => cnt f l (f p))).foldl max 0
theorem foldl_max_ge (l : List Nat) : ∀ a, a ≤ l.foldl max a ∧ ∀ x ∈ l, x ≤ l.foldl max a := by
  induction l with
  | nil => exact fun a => ⟨Nat.le_refl _, fun x hx => absurd hx List.not_mem_nil⟩
  | cons b r ih =>
    intro a
    obtain ⟨h1, h2⟩ := ih (max a b)
    refine ⟨by rw [List.foldl_cons]; omega, fun x hx => ?_⟩
    rw [List.foldl_cons]
    rcases List.mem_cons.1 hx with e | e
    · subst e; omega
    · exact h2 x e
theorem foldl_max_in (l : List Nat) : ∀ a, l.foldl max a = a ∨ l.foldl max a ∈ l := by
  induction l with
  | nil => exact fun a => .inl rfl
  | cons b r ih =>
    intro a
    rw [List.foldl_cons]
    rcases ih (max a b) with h | h
    · rw [h]
      by_cases hab : a ≤ b
      · right; rw [show max a b = b by omega]; simp
      · left; omega
    · exact .inr (List.mem_cons_of_mem _ h)
theorem alike_most (f : Pr → Int) (l : List Pr) : IsMost f l (alikeN f l) := by
  constructor
  · intro z
    by_cases h : cnt f l z = 0
    · omega
    · have : ∃ p, p ∈ l ∧ f p = z := by
        unfold cnt at h
        obtain ⟨p, hp⟩ := List.exists_mem_of_length_pos (by omega : 0 < (l.filter (fun p => f p == z)).length)
        rw [List.mem_filter] at hp
        exact ⟨p, hp.1, by simpa using hp.2⟩
      obtain ⟨p, hp, rfl⟩ := this
      exact (foldl_max_ge _ 0).2 _ (List.mem_map.2 ⟨p, hp, rfl⟩)
  · rcases foldl_max_in (l.map (fun p => cnt f l (f p))) 0 with h | h
    · exact .inl h
    · obtain ⟨p, _, hp⟩ := List.mem_map.1 h
      exact .inr ⟨f p, hp⟩
theorem cnt_len (f : Pr → Int) (l : List Pr) (z : Int) : cnt f l z ≤ l.length := List.length_filter_le _ _

/-- Block b is a map of ints that says of each number of how many pairs of l it is shown. -/
def Often (w : World) (b : Nat) (f : Pr → Int) (l : List Pr) : Prop :=
  ∃ (D : DataW Nat) (n : Nat), w.ownsMap Try.prog 3 (plainElem Try.prog 3) b n D ∧ n ≤ l.length ∧ ∀ z, -100000 ≤ z → z ≤ 100000 → D.atKey (.int .i64 z) (.lit (.int .i64 0)) = .lit (.int .i64 (cnt f l z))
theorem int_wf2 {x : Int} (h1 : -100000 ≤ x) (h2 : x ≤ 100000) : (Lit.int .i64 x).wf = true := int_wf h1 h2
theorem int_elem {v : Value} {z : Int} {ps : List MemPlace} (h : plainElem (H := Nat) Try.prog 3 v = some (.lit (.int .i64 z), ps)) : v = .int .i64 z := by
  obtain ⟨a, rfl, h2, _⟩ := plainElem_int_inv Try.underlying3 h
  simp only [Prod.mk.injEq, DataW.lit.injEq, Lit.int.injEq, true_and] at h2
  rw [h2.1]
theorem Often.made (w : World) (f : Pr → Int) : Often (w.alloc (.map #[] 0)) w.heap.size f [] :=
  ⟨.map [], 0, World.ownsMap_made w _ _ _, Nat.le_refl _, fun z _ _ => by rw [WideAt.atKey_none _ (fun p hp => absurd hp List.not_mem_nil)]; rfl⟩
theorem Often.kept {w w' : World} {row : Option Nat} {b : Nat} {f : Pr → Int} {l : List Pr} (h : Often w b f l) (hg : w.grownBy w' row) (hne : some b ≠ row) : Often w' b f l := by
  obtain ⟨D, n, h1, h2⟩ := h
  exact ⟨D, n, h1.kept hg hne, h2⟩
theorem Often.lt {w : World} {b : Nat} {f : Pr → Int} {l : List Pr} (h : Often w b f l) : b < w.heap.size := by
  obtain ⟨D, n, h1, _⟩ := h
  exact h1.lt
theorem Often.keep {w w' : World} {b : Nat} {f : Pr → Int} {l : List Pr} (h : Often w b f l) (k : Keeps w w') : Often w' b f l := h.kept (k.grown none) (by simp)
theorem Often.look {w : World} {b : Nat} {f : Pr → Int} {l : List Pr} (h : Often w b f l) {z : Int} (h1 : -100000 ≤ z) (h2 : z ≤ 100000) :
    (Instr.lookup 142 (.map (some b)) (.int .i64 z) false).run Try.prog w = .ok (.int .i64 (cnt f l z)) w := by
  obtain ⟨D, n, ho, hn, ha⟩ := h
  obtain ⟨v, ps, hrun, hv⟩ := ho.lookup (int_keyed Try.underlying3) Try.underlying142 (Try.zeroValue3 w) (plainElem_int Try.underlying3 (int_wf (by omega) (by omega) : (Lit.int .i64 0).wf = true)) (keyOf_int_mk Try.underlying3 (int_wf h1 h2))
  rw [ha z h1 h2] at hv
  rw [hrun, int_elem hv]
theorem Often.put {w : World} {b : Nat} {f : Pr → Int} {l : List Pr} (h : Often w b f l) (p : Pr) (h1 : -100000 ≤ f p) (h2 : f p ≤ 100000) (hl : l.length < 1000) :
    ∃ w', (Instr.mapUpdate 142 (.map (some b)) (.int .i64 (f p)) (.int .i64 ((cnt f l (f p) : Int) + 1))).run Try.prog w = .ok () w' ∧ Often w' b f (l ++ [p]) ∧ w.grownBy w' (some b) := by
  obtain ⟨D, n, ho, hn, ha⟩ := h
  have hc := cnt_len f l (f p)
  have ht := ho.tidy (int_keyed Try.underlying3)
  obtain ⟨w', hrun, ho', hg⟩ := ho.update (int_keyed Try.underlying3) Try.underlying142 (by unfold maxLen; omega) (keyOf_int_mk Try.underlying3 (int_wf h1 h2)) (plainElem_int Try.underlying3 (int_wf (by omega) (by omega) : (Lit.int .i64 ((cnt f l (f p) : Int) + 1)).wf = true))
  refine ⟨w', hrun, ⟨_, n + 1, ho', by simp; omega, fun z z1 z2 => ?_⟩, hg⟩
  by_cases e : z = f p
  · subst e
    rw [atKey_put_same ht.isMap (show WideAt.IsKeyLit (.int .i64 (f p)) from trivial), cnt_snoc, if_pos rfl]
    rfl
  · rw [atKey_put_other (fun h => e (by injection h)), ha z z1 z2, cnt_snoc, if_neg (fun h => e h.symm)]
    rfl
end Go.Proofs.Ytidiikmpgpnmpaa
