/-
  A REGION OF READS AND OF CALLS THAT KEEP WHAT LAY THERE, in whatever order, in a round or not: one walk in the text's order serves every order, as long as each operation gives the same value in every world of C, and leaves C.
  A REGION THAT DRAWS ITS ORDER, WHOSE LAST OPERATIONS WAIT FOR ALL BEFORE THEM: one walk in the text's order of those that only read (or call what keeps what lay there), and then the rest one after the other: the first of the rest may be a call of any kind.
  A REGION THAT DRAWS ITS ORDER, IN A ROUND OR NOT: operations that only read (in every later world they give the same), and calls that keep what lay there and hand back what they will: one walk in the text's order serves every order, if each call waits for the one before it.
  A REGION THAT DRAWS ITS ORDER, STEP BY STEP, over a class of worlds: operations that give the same in all of them, and others that lead from one to another.
-/
import Derived.Test.YtmhpgjlegajpeaaR
import Derived.Sort.BigQuietIn
import Derived.Test.YtmhpgjlegajpeaaK
namespace Go.Proofs.Ytmhpgjlegajpeaa
section
variable {F : Fence} {n : Nat} {P : Program}

theorem region_keep {id : Nat} {Q : Exit → Act → World → Prop} {a : Act} {w : World} {l : List Oper} (C : World → Prop) (h0 : C w.drew) (hd : noDefer l = true) (hm : P.follows .mixedOrders = true) (hB : Region.lexB .any l.toArray = true)
    (h : wpQuietIn F n P l.toArray C (fun a' => ∀ w', C w' → Q .normal a' w') l a) : (Code.region id l.toArray true).wpIn F n P Q a w := by
  simp only [Region.lexB, Bool.and_eq_true] at hB
  refine wpIn_region_any hm (quiet_any_round (C := C) (Q := fun a' => ∀ w', C w' → Q .normal a' w') (fun i o ho => noDefer_at hd (by simpa using ho)) (fun _ w' hw' h => h w' hw') _ _ _ _ h0 ?_)
  have := wpAnyQIn_lex (F := F) (n := n) (P := P) (ops := l.toArray) (C := C) (md := .any) hB.1 l 0 (Array.replicate l.toArray.size false) a (by simp) (by simpa using hB.2) h
  simpa using this
/-- A world in which all that lay in w lies as it lay. -/
structure Since (w : World) where
  W : World
  keeps : Keeps w W
theorem Since.some (w : World) : Nonempty (Since w) := ⟨⟨w, Keeps.refl w⟩⟩
end
end Go.Proofs.Ytmhpgjlegajpeaa

namespace Go.Proofs.Ytmhpgjlegajpeaa
section
variable {F : Fence} {n : Nat} {P : Program}

def depsOf (md : Region.Mode) (ops : List Oper) (j : Nat) : List Nat := ((ops[j]?).map fun o => (o.after.toList.filter (Region.binds md)).map (·.on)).getD []
def cloOf (md : Region.Mode) (ops : List Oper) : Nat → List Nat → List Nat
  | 0, S => S
  | m + 1, S => cloOf md ops m (S ++ ((S.flatMap (depsOf md ops)).filter (fun x => !S.contains x)).eraseDups)
def allTo (m k : Nat) : Array Bool := (List.replicate k true ++ List.replicate (m - k) false).toArray
def guardsIn (k : Nat) (l : List Oper) : Bool := l.all fun o => match o.guard with
  | none => true
  | some (j, _) => decide (j < k)
/-- The first k operations wait for earlier ones alone, each later one for all of these, and the later ones come one after the other. -/
def tailB (md : Region.Mode) (ops : List Oper) (k : Nat) : Bool :=
  decide (k ≤ ops.length) && guardsIn k (ops.take k) && ((List.range k).all fun i => (depsOf md ops i).all fun j => decide (j < i)) &&
  ((List.range' k (ops.length - k)).all fun j => (List.range k).all fun i => (cloOf md ops 8 (depsOf md ops j)).contains i) &&
  ((List.range' k (ops.length - k)).all fun t => Region.ready md ops.toArray (allTo ops.length t) == [t]) && Region.ready md ops.toArray (allTo ops.length ops.length) == []

theorem depsOf_mem {md : Region.Mode} {ops : List Oper} {j : Nat} {o : Oper} (ho : ops[j]? = some o) {x : Nat} : x ∈ depsOf md ops j ↔ ∃ e ∈ o.after, Region.binds md e = true ∧ e.on = x := by
  simp only [depsOf, ho, Option.map_some, Option.getD_some, List.mem_map, List.mem_filter, Array.mem_toList_iff]
  constructor
  · rintro ⟨e, ⟨h1, h2⟩, h3⟩; exact ⟨e, h1, h2, h3⟩
  · rintro ⟨e, h1, h2, h3⟩; exact ⟨e, ⟨h1, h2⟩, h3⟩
theorem cloOf_listed {md : Region.Mode} {ops : List Oper} {T : Nat → Prop} (hT : ∀ j, T j → ∀ x ∈ depsOf md ops j, T x) : ∀ (m : Nat) (S : List Nat), (∀ x ∈ S, T x) → ∀ x ∈ cloOf md ops m S, T x
  | 0, _, h, x, hx => h x hx
  | m + 1, S, h, x, hx => by
    refine cloOf_listed hT m _ (fun y hy => ?_) x hx
    rcases List.mem_append.1 hy with h1 | h1
    · exact h y h1
    · rw [List.mem_eraseDups, List.mem_filter, List.mem_flatMap] at h1
      obtain ⟨⟨j, hj, hy⟩, _⟩ := h1
      exact hT j (h j hj) y hy
theorem yielded_pre {ops : List Oper} {k j : Nat} (h : j < k) (tmps : Array Value) : yielded ops.toArray tmps j = yielded (ops.take k).toArray tmps j := by
  unfold yielded
  simp [h]
theorem wanted_pre {ops : List Oper} {k : Nat} {o : Oper} (hg : guardsIn k [o] = true) (tmps : Array Value) : Region.wanted o (yielded ops.toArray tmps) = Region.wanted o (yielded (ops.take k).toArray tmps) := by
  unfold Region.wanted
  cases h : o.guard with
  | none => rfl
  | some p =>
    obtain ⟨j, b⟩ := p
    simp only [guardsIn, List.all_cons, h, List.all_nil, Bool.and_true, decide_eq_true_eq] at hg
    show (yielded ops.toArray tmps j == some b) = (yielded (ops.take k).toArray tmps j == some b)
    rw [yielded_pre hg]
theorem allTo_getD (m k i : Nat) (d : Bool) : (allTo m k).getD i d = if i < k then true else if i < m then false else d := by
  simp only [allTo, Array.getD_eq_getD_getElem?, List.getElem?_toArray]
  by_cases h : i < k
  · rw [List.getElem?_append_left (by simpa using h)]
    simp [h]
  · rw [List.getElem?_append_right (by simpa using h), if_neg h]
    simp only [List.length_replicate]
    by_cases h2 : i < m
    · rw [if_pos h2, List.getElem?_replicate, if_pos (by omega)]; rfl
    · rw [if_neg h2, List.getElem?_eq_none (by simp; omega)]; rfl
theorem allTo_set (m k : Nat) (h : k < m) : (allTo m k).setIfInBounds k true = allTo m (k + 1) := by
  apply Array.ext_getElem?
  intro i
  simp only [allTo, Array.getElem?_setIfInBounds, List.getElem?_toArray, List.size_toArray, List.length_append, List.length_replicate]
  by_cases e : k = i
  · subst e
    rw [if_pos rfl, if_pos (by omega), List.getElem?_append_left (by simp)]
    simp
  · rw [if_neg e]
    rcases Nat.lt_or_gt_of_ne e with h1 | h1
    · rw [List.getElem?_append_right (by simp; omega), List.getElem?_append_right (by simp; omega)]
      simp only [List.getElem?_replicate, List.length_replicate]
      by_cases h2 : i < m
      · rw [if_pos (by omega), if_pos (by omega)]
      · rw [if_neg (by omega), if_neg (by omega)]
    · rw [List.getElem?_append_left (by simp; omega), List.getElem?_append_left (by simp; omega)]
      simp only [List.getElem?_replicate]
      rw [if_pos (by omega), if_pos (by omega)]
/-- The rest, one operation after the other. -/
theorem any_tail {md : Region.Mode} {ops : List Oper} {k : Nat} {Q : Exit → Act → World → Prop} (hc : ∀ t, k ≤ t → t < ops.length → Region.ready md ops.toArray (allTo ops.length t) = [t]) (he : Region.ready md ops.toArray (allTo ops.length ops.length) = []) :
    ∀ (r t : Nat), r + t = ops.length → k ≤ t → ∀ (a : Act) (w : World), wpListIn F n P ops.toArray Q (ops.drop t) a w → wpAnyIn F n P md ops.toArray Q r (allTo ops.length t) a w
  | 0, t, ht, _, a, w, h => by
    have e : t = ops.length := by omega
    subst e
    rw [List.drop_length] at h
    exact ⟨he, h⟩
  | r + 1, t, ht, hk, a, w, h => by
    have hlt : t < ops.length := by omega
    have hr := hc t hk hlt
    refine ⟨fun e => (by rw [hr] at e; cases e), fun i hi => ?_⟩
    rw [hr, List.mem_singleton] at hi
    subst hi
    rw [List.drop_eq_getElem_cons hlt, wpListIn] at h
    rw [allTo_set _ _ hlt]
    unfold wpOpIn
    simp only [List.getElem?_toArray, List.getElem?_eq_getElem hlt]
    have ih := fun a w h => any_tail (Q := Q) hc he r (i + 1) (by omega) (by omega) a w h
    split
    · rename_i hw
      rw [if_pos hw] at h
      exact Oper.wpIn_mono ih h
    · rename_i hw
      rw [if_neg hw] at h
      exact ⟨h.1, ih _ _ h.2⟩
/-- How many of the first k are not listed. -/
def unlisted (k : Nat) (L : Array Bool) : Nat := (List.range k).countP fun i => !L.getD i true
theorem unlisted_set {k i : Nat} {L : Array Bool} (hi : i < k) (h : L.getD i true = false) : unlisted k L = unlisted k (L.setIfInBounds i true) + 1 := by
  have hs : i < L.size := by
    rcases Nat.lt_or_ge i L.size with h1 | h1
    · exact h1
    · simp [Array.getD_eq_getD_getElem?, Array.getElem?_eq_none h1] at h
  have hg : ∀ j, (L.setIfInBounds i true).getD j true = if i = j then true else L.getD j true := fun j => by
    simp only [Array.getD_eq_getD_getElem?, Array.getElem?_setIfInBounds]
    by_cases e : i = j
    · subst e; simp [hs]
    · simp [e]
  unfold unlisted
  obtain ⟨d, rfl⟩ : ∃ d, k = i + 1 + d := ⟨k - (i + 1), by omega⟩
  rw [List.range_add, List.range_succ]
  simp only [List.countP_append, List.countP_map, List.countP_cons, List.countP_nil, hg, h]
  have e1 : (List.range i).countP (fun j => !(if i = j then true else L.getD j true)) = (List.range i).countP (fun j => !L.getD j true) := by
    refine List.countP_congr fun j hj => ?_
    rw [if_neg (by have := List.mem_range.1 hj; omega)]
  have e2 : (List.range d).countP ((fun j => !(if i = j then true else L.getD j true)) ∘ fun x => i + 1 + x) = (List.range d).countP ((fun j => !L.getD j true) ∘ fun x => i + 1 + x) := by
    refine List.countP_congr fun j _ => ?_
    simp only [Function.comp]
    rw [if_neg (by omega)]
  rw [e1, e2]
  simp
  omega
theorem unlisted_zero {k : Nat} {L : Array Bool} (h : unlisted k L = 0) : ∀ i, i < k → L.getD i true = true := by
  intro i hi
  have := List.countP_eq_zero.1 h i (List.mem_range.2 hi)
  simpa using this
theorem unlisted_pos {k m : Nat} {L : Array Bool} (h : unlisted k L = m + 1) : ∃ i, i < k ∧ L.getD i true = false ∧ ∀ j, j < i → L.getD j true = true := by
  have h1 : ∃ i, i < k ∧ L.getD i true = false := by
    have h0 : 0 < unlisted k L := by omega
    obtain ⟨i, hi, hp⟩ := List.countP_pos_iff.1 h0
    exact ⟨i, List.mem_range.1 hi, by simpa using hp⟩
  obtain ⟨i, hi, hf⟩ := h1
  induction i using Nat.strongRecOn with
  | ind i ih =>
    by_cases hall : ∀ j, j < i → L.getD j true = true
    · exact ⟨i, hi, hf, hall⟩
    · simp only [Classical.not_forall] at hall
      obtain ⟨j, hj, hn⟩ := hall
      exact ih j hj (by omega) (by simpa using hn)
theorem any_prefix {md : Region.Mode} {ops : List Oper} {k : Nat} {C : World → Prop} {Q : Act → Prop} {Q' : Exit → Act → World → Prop} (hd : noDefer (ops.take k) = true) (hk : k ≤ ops.length) (hg : guardsIn k (ops.take k) = true)
    (hlex : ∀ i, i < k → ∀ j ∈ depsOf md ops i, j < i) (hall : ∀ j, k ≤ j → j < ops.length → ∀ i, i < k → i ∈ cloOf md ops 8 (depsOf md ops j))
    (ht : ∀ a w, C w → Q a → wpAnyIn F n P md ops.toArray Q' (ops.length - k) (allTo ops.length k) a w) :
    ∀ (fuel : Nat) (L M : Array Bool) (a : Act) (w : World), L.size = k → M.size = ops.length → (∀ i, i < k → M.getD i true = L.getD i true) → (∀ i, k ≤ i → i < ops.length → M.getD i true = false) →
      (∀ j, M.getD j false = true → ∀ x ∈ depsOf md ops j, M.getD x false = true) → unlisted k L = fuel → C w → wpAnyQIn F n P md (ops.take k).toArray C Q fuel L a → wpAnyIn F n P md ops.toArray Q' (fuel + (ops.length - k)) M a w
  | 0, L, M, a, w, hL, hM, h1, h2, _, hu, hC, h => by
    have hz := unlisted_zero hu
    have e : M = allTo ops.length k := by
      apply Array.ext_getElem?
      intro i
      have q := allTo_getD ops.length k i true
      have hsz : (allTo ops.length k).size = ops.length := by simp [allTo]; omega
      rcases Nat.lt_or_ge i ops.length with hi | hi
      · have hm : M.getD i true = (allTo ops.length k).getD i true := by
          rw [q]
          by_cases hik : i < k
          · rw [if_pos hik, h1 i hik]; exact hz i hik
          · rw [if_neg hik, if_pos hi]; exact h2 i (by omega) hi
        rw [Array.getElem?_eq_getElem (by omega), Array.getElem?_eq_getElem (by omega)]
        simpa [Array.getD_eq_getD_getElem?, Array.getElem?_eq_getElem (show i < M.size by omega), Array.getElem?_eq_getElem (show i < (allTo ops.length k).size by omega)] using hm
      · rw [Array.getElem?_eq_none (by omega), Array.getElem?_eq_none (by omega)]
    rw [e, Nat.zero_add]
    exact ht a w hC h.2
  | fuel + 1, L, M, a, w, hL, hM, h1, h2, h3, hu, hC, h => by
    obtain ⟨i0, hi0, hf0, hl0⟩ := unlisted_pos hu
    have hlist : ∀ x, M.getD x false = true ↔ x < ops.length ∧ M.getD x true = true := fun x => by
      simp only [Array.getD_eq_getD_getElem?]
      rcases Nat.lt_or_ge x ops.length with hx | hx
      · rw [Array.getElem?_eq_getElem (by omega)]; simp [hx]
      · rw [Array.getElem?_eq_none (by omega)]; simp; omega
    have hget : ∀ i, i < k → (ops.take k).toArray[i]? = ops[i]? := fun i hi => by simp [hi]
    have e : fuel + 1 + (ops.length - k) = (fuel + (ops.length - k)) + 1 := by omega
    rw [e]
    refine ⟨fun e0 => ?_, fun i hi => ?_⟩
    · exfalso
      have hr : i0 ∈ Region.ready md ops.toArray M := by
        refine mem_ready.2 ⟨by rw [h1 i0 hi0]; exact hf0, ops[i0], by simp, fun e he hb => ?_⟩
        have hlt := hlex i0 hi0 e.on ((depsOf_mem (List.getElem?_eq_getElem (by omega))).2 ⟨e, he, hb, rfl⟩)
        exact (hlist _).2 ⟨by omega, by rw [h1 _ (by omega)]; exact hl0 _ hlt⟩
      rw [e0] at hr
      cases hr
    · obtain ⟨hun, o, ho, hdep⟩ := mem_ready.1 hi
      rw [List.getElem?_toArray] at ho
      have hio : i < ops.length := (List.getElem?_eq_some_iff.1 ho).1
      by_cases hik : i < k
      · have hi' : i ∈ Region.ready md (ops.take k).toArray L := by
          refine mem_ready.2 ⟨by rw [← h1 i hik]; exact hun, o, (hget i hik).trans ho, fun e he hb => ?_⟩
          have hlt := hlex i hik e.on ((depsOf_mem ho).2 ⟨e, he, hb, rfl⟩)
          have := ((hlist _).1 (hdep e he hb)).2
          rw [h1 _ (by omega)] at this
          simp only [Array.getD_eq_getD_getElem?, Array.getElem?_eq_getElem (show e.on < L.size by omega)] at this ⊢
          simpa using this
        have hq := h.2 i hi'
        unfold qOpIn at hq
        rw [hget i hik, ho] at hq
        simp only at hq
        have hgo : guardsIn k [o] = true := by
          have hm : o ∈ ops.take k := by
            rw [List.mem_take_iff_getElem]
            obtain ⟨h5, h6⟩ := List.getElem?_eq_some_iff.1 ho
            exact ⟨i, by omega, h6⟩
          have := List.all_eq_true.1 hg o hm
          simpa [guardsIn] using this
        have hdo : ∀ c, o.op ≠ .defer c := noDefer_at (l := ops.take k) (i := i) hd (by rw [← List.getElem?_toArray]; exact (hget i hik).trans ho)
        have hnext : ∀ a' w', C w' → wpAnyQIn F n P md (ops.take k).toArray C Q fuel (L.setIfInBounds i true) a' → wpAnyIn F n P md ops.toArray Q' (fuel + (ops.length - k)) (M.setIfInBounds i true) a' w' := by
          intro a' w' hC' h'
          have hmg : ∀ j d, (M.setIfInBounds i true).getD j d = if i = j then true else M.getD j d := fun j d => by
            simp only [Array.getD_eq_getD_getElem?, Array.getElem?_setIfInBounds]
            by_cases e : i = j
            · subst e; simp [hM, hio]
            · simp [e]
          have hlg : ∀ j d, (L.setIfInBounds i true).getD j d = if i = j then true else L.getD j d := fun j d => by
            simp only [Array.getD_eq_getD_getElem?, Array.getElem?_setIfInBounds]
            by_cases e : i = j
            · subst e; simp [hL, hik]
            · simp [e]
          refine any_prefix hd hk hg hlex hall ht fuel _ _ a' w' (by simpa using hL) (by simpa using hM) (fun j hj => ?_) (fun j hj1 hj2 => ?_) (fun j hj x hx => ?_) ?_ hC' h'
          · rw [hmg, hlg, h1 j hj]
          · rw [hmg, if_neg (by omega)]; exact h2 j hj1 hj2
          · rw [hmg] at hj ⊢
            by_cases e1 : i = x
            · rw [if_pos e1]
            · rw [if_neg e1]
              by_cases e2 : i = j
              · subst e2
                obtain ⟨e, he, hb, rfl⟩ := (depsOf_mem ho).1 hx
                exact hdep e he hb
              · rw [if_neg e2] at hj
                exact h3 j hj x hx
          · have := unlisted_set (L := L) hik (by rw [← h1 i hik]; exact hun)
            omega
        unfold wpOpIn
        rw [List.getElem?_toArray, ho]
        simp only
        rw [wanted_pre hgo]
        split
        · rename_i hw
          have hq2 := hq.2
          rw [if_pos hw] at hq2
          exact quiet_op_round hdo hC hnext hq.1 hq2
        · rename_i hw
          have hq2 := hq.2
          rw [if_neg hw] at hq2
          exact ⟨hq.1 w hC, hnext _ _ hC hq2⟩
      · exfalso
        have hmem := hall i (by omega) hio i0 hi0
        have := cloOf_listed (T := fun x => M.getD x false = true) h3 8 (depsOf md ops i) (fun x hx => by
          obtain ⟨e, he, hb, rfl⟩ := (depsOf_mem ho).1 hx
          exact hdep e he hb) i0 hmem
        have h6 := ((hlist _).1 this).2
        rw [h1 i0 hi0, hf0] at h6
        cases h6
/-- The law. k: how many operations come in whatever order. -/
theorem region_call {id : Nat} {Q : Exit → Act → World → Prop} {a : Act} {w : World} {ops : List Oper} (k : Nat) (C : World → Prop) (h0 : C w.drew) (hd : noDefer (ops.take k) = true) (hm : P.follows .mixedOrders = true) (hB : Region.lexB .any (ops.take k).toArray = true) (hT : tailB .any ops k = true)
    (h : wpQuietIn F n P (ops.take k).toArray C (fun a' => ∀ w', C w' → wpListIn F n P ops.toArray Q (ops.drop k) a' w') (ops.take k) a) : (Code.region id ops.toArray true).wpIn F n P Q a w := by
  simp only [tailB, Bool.and_eq_true, decide_eq_true_eq, List.all_eq_true, List.mem_range, List.mem_range'_1, beq_iff_eq, List.contains_iff_mem] at hT
  obtain ⟨⟨⟨⟨⟨t1, t2⟩, t3⟩, t4⟩, t5⟩, t6⟩ := hT
  simp only [Region.lexB, Bool.and_eq_true] at hB
  have hlen : (ops.take k).length = k := by simp [t1]
  have hq := wpAnyQIn_lex (F := F) (n := n) (P := P) (ops := (ops.take k).toArray) (C := C) (md := .any) hB.1 (ops.take k) 0 (Array.replicate (ops.take k).toArray.size false) a (by simp) (by simpa using hB.2) h
  rw [hlen] at hq
  refine wpIn_region_any hm ?_
  have e : ops.toArray.size = k + (ops.length - k) := by simp; omega
  have e2 : Array.replicate ops.toArray.size false = Array.replicate ops.length false := by simp
  rw [e2, e]
  have hrep : ∀ m i d, (Array.replicate m false).getD i d = if i < m then false else d := fun m i d => by
    simp only [Array.getD_eq_getD_getElem?, Array.getElem?_replicate]
    split <;> rfl
  refine any_prefix (C := C) (Q := fun a' => ∀ w', C w' → wpListIn F n P ops.toArray Q (ops.drop k) a' w') hd t1 t2 t3 (fun j hj1 hj2 i hi => t4 j ⟨hj1, by omega⟩ i hi)
    (fun a w hC hQ => any_tail (k := k) (fun t h1 h2 => t5 t ⟨h1, by omega⟩) t6 (ops.length - k) k (by omega) (Nat.le_refl _) a w (hQ w hC))
    k (Array.replicate (ops.take k).toArray.size false) _ a _ (by simp [t1]) (by simp) (fun i hi => ?_) (fun i hi1 hi2 => ?_) (fun j hj => ?_) ?_ h0 hq
  · rw [hrep, hrep, if_pos (by omega), if_pos (by simp; omega)]
  · rw [hrep, if_pos hi2]
  · rw [hrep] at hj
    split at hj <;> cases hj
  · have : ∀ i ∈ List.range k, (!(Array.replicate (ops.take k).toArray.size false).getD i true) = true := fun i hi => by
      rw [hrep, if_pos (by have := List.mem_range.1 hi; simp; omega)]; rfl
    unfold unlisted
    rw [List.countP_eq_length.2 this, List.length_range]
end
end Go.Proofs.Ytmhpgjlegajpeaa

namespace Go.Proofs.Ytmhpgjlegajpeaa
section
variable {F : Fence} {n : Nat} {P : Program} {ops : Array Oper} {md : Region.Mode} {Q : Exit → Act → World → Prop}

def Fence.still : Fence := { fn := fun _ => True, depth := some 0, alive := false }
/-- In every world that keeps what lies in w the operation gives v, and turns nothing. -/
def Still (P : Program) (ops : Array Oper) (w : World) (o : Oper) (v : Value) (a : Act) : Prop :=
  (Region.wanted o (yielded ops a.tmps) = true ∧ ∀ w', Keeps w w' → (execOp a.eval o).run P w' = .ok (.value v) w' ∨ ((execOp a.eval o).run P w' = .ok .skip w' ∧ v = undef)) ∨ (Region.wanted o (yielded ops a.tmps) = false ∧ v = undef)
theorem Still.later {w w' : World} {o : Oper} {v : Value} {a : Act} (h : Still P ops w o v a) (k : Keeps w w') : Still P ops w' o v a := by
  rcases h with ⟨h1, h2⟩ | h
  · exact .inl ⟨h1, fun w2 k2 => h2 w2 (k.trans k2)⟩
  · exact .inr h
theorem Still.wpOpIn {i : Nat} {o : Oper} {v : Value} {a : Act} {w : World} (hfn : ∀ f, F.fn f) (hi : ops[i]? = some o) (hd : ∀ c, o.op ≠ .defer c) (hy : Still P ops w o v a) {K : Act → World → Prop} (h : K (a.put o.dst v) w) : wpOpIn F n P ops Q i K a w := by
  unfold Go.wpOpIn
  simp only [hi]
  rcases hy with ⟨hw, hv⟩ | ⟨hw, rfl⟩
  · simp only [hw, if_true, Oper.wpIn, Oper.semAt_eq _ _ _ hd]
    refine ⟨fun f _ => hfn f, ?_⟩
    rcases hv w (Keeps.refl w) with h2 | ⟨h2, e⟩
    · rw [h2]; exact h
    · rw [h2]; subst e; exact h
  · simp only [hw, Bool.false_eq_true, if_false]; exact ⟨fun f _ => hfn f, h⟩
theorem Still.of_same {w : World} {o : Oper} {v : Value} {a a' : Act} (hy : Still P ops w o v a) (he : execOp a'.eval o = execOp a.eval o) (hw : Region.wanted o (yielded ops a'.tmps) = Region.wanted o (yielded ops a.tmps)) : Still P ops w o v a' := by
  unfold Still
  rw [he, hw]
  exact hy
theorem still_put {j : Nat} {oi oj : Oper} {v : Value} (hj : ops[j]? = some oj) (hdj : ∀ c, oj.op ≠ .defer c) (hap : oi.apart ops oj = true)
    (hsi : ∀ cs b, oi.op ≠ .select cs b) (hsj : ∀ cs b, oj.op ≠ .select cs b)
    (hQ : ∀ c a w, Q (.panic c) (a.put oi.dst v) w → Q (.panic c) a w) {K : Act → World → Prop} {a : Act} {w : World}
    (hy : Still P ops w oi v a) (h : wpOpIn F n P ops Q j K (a.put oi.dst v) w) :
    wpOpIn F n P ops Q j (fun a' w' => Still P ops w oi v a' ∧ K (a'.put oi.dst v) w') a w := by
  obtain ⟨h1, h2, h3⟩ := Oper.apart_spec hap
  have keep : ∀ (a : Act), Still P ops w oi v a → ∀ u, Still P ops w oi v (a.put oj.dst u) := fun a hy u =>
    hy.of_same (execOp_put oi hsi a oj.dst u h3) (wanted_put oi a oj.dst u h3)
  have keepD : ∀ d, Still P ops w oi v { a with defers := d :: a.defers } := fun d => hy.of_same rfl rfl
  unfold wpOpIn at *
  simp only [hj] at *
  rw [wanted_put oj a oi.dst v h1, about_put oj w a oi.dst v h1] at h
  split
  · rename_i hw
    simp only [hw, if_true] at h
    unfold Oper.wpIn at *
    rw [about_put oj w a oi.dst v h1] at h
    refine ⟨h.1, ?_⟩
    have h := h.2
    rw [Oper.semAt_eq _ _ _ hdj, execOp_put oj hsj a oi.dst v h1] at h
    rw [Oper.semAt_eq _ _ _ hdj]
    generalize (execOp a.eval oj).run P w = r at *
    cases r with
    | ok x w' =>
      cases x <;> simp only [Oper.uponIn] at h ⊢
      case value u => exact ⟨keep a hy u, by rw [← Act.put_comm a v u h2]; exact h⟩
      case skip => exact ⟨keep a hy _, by rw [← Act.put_comm a v undef h2]; exact h⟩
      case defer d =>
        refine ⟨keep _ (keepD d) _, ?_⟩
        rw [← Act.put_comm _ v undef h2, ← Act.put_defers]
        exact h
      case enter f args =>
        refine ⟨h.1, CallsIn.mono h.2 fun e w'' he => ?_⟩
        cases e with
        | returned u => exact ⟨keep a hy u, by rw [← Act.put_comm a v u h2]; exact he⟩
        | panicked c => exact hQ _ _ _ he
        | outgrown => exact he
      case row row args => exact ⟨h.1, RowsIn.mono h.2 fun u w'' he => ⟨keep a hy u, by rw [← Act.put_comm a v u h2]; exact he⟩⟩
      case round l f tmps assign body =>
        refine ⟨h.1, RoundIn.mono h.2 fun e w'' he => ?_⟩
        cases e with
        | returned u => exact ⟨keep a hy u, by rw [← Act.put_comm a v u h2]; exact he⟩
        | panicked c => exact hQ _ _ _ he
        | outgrown => exact he
    | halt x w' =>
      cases x <;> simp only [Oper.uponIn] at h ⊢
      case panic u => exact hQ _ _ _ h
  · rename_i hw
    simp only [hw] at h
    exact ⟨h.1, keep a hy _, by rw [← Act.put_comm a v undef h2]; exact h.2⟩
/-- Every order, each of the first M operations keeping what lay there. -/
def wpAnyK (F : Fence) (n : Nat) (P : Program) (md : Region.Mode) (ops : Array Oper) (Q : Exit → Act → World → Prop) (M : Nat) : Nat → Array Bool → Act → World → Prop
  | 0, listed, a, w => Region.ready md ops listed = [] ∧ Q .normal a w
  | fuel + 1, listed, a, w => (Region.ready md ops listed = [] → Q .normal a w) ∧ ∀ i ∈ Region.ready md ops listed, wpOpIn F n P ops Q i (fun a' w' => (i < M → Keeps w w') ∧ wpAnyK F n P md ops Q M fuel (listed.setIfInBounds i true) a' w') a w
theorem wpAnyK_any {M : Nat} : ∀ (fuel : Nat) (listed : Array Bool) (a : Act) (w : World), wpAnyK F n P md ops Q M fuel listed a w → wpAnyIn F n P md ops Q fuel listed a w
  | 0, _, _, _, h => h
  | fuel + 1, _, _, _, h => ⟨h.1, fun i hi => wpOpIn_mono (fun a' w' h' => wpAnyK_any fuel _ a' w' h'.2) (h.2 i hi)⟩
theorem firstK {M i : Nat} {oi : Oper} {v : Value} (hfn : ∀ f, F.fn f) (hi : ops[i]? = some oi) (hiM : i < M) (hM : ∀ (j : Nat) (o : Oper), ops[j]? = some o → M ≤ j → ∃ e ∈ o.after, Region.binds md e = true ∧ e.on = i)
    (hdef : ∀ (j : Nat) (o : Oper), ops[j]? = some o → ∀ c, o.op ≠ .defer c) (hsel : ∀ (j : Nat) (o : Oper) cs b, ops[j]? = some o → o.op ≠ .select cs b)
    (hQ : ∀ c a w, Q (.panic c) (a.put oi.dst v) w → Q (.panic c) a w) :
    ∀ (fuel : Nat) (listed : Array Bool) (a : Act) (w : World),
      (∀ j oj, ops[j]? = some oj → j ≠ i → listed.getD j true = false → (∀ e ∈ oj.after, Region.binds md e = true → e.on ≠ i) → oi.apart ops oj = true) →
      i ∈ Region.ready md ops listed → Still P ops w oi v a →
      wpAnyK F n P md ops Q M fuel (listed.setIfInBounds i true) (a.put oi.dst v) w → wpAnyK F n P md ops Q M (fuel + 1) listed a w := by
  intro fuel
  induction fuel with
  | zero =>
    intro listed a w _ hr hy H
    refine ⟨fun h => (by rw [h] at hr; cases hr), fun j hj => ?_⟩
    by_cases hji : j = i
    · subst hji; exact hy.wpOpIn hfn hi (hdef j oi hi) ⟨fun _ => Keeps.refl w, H⟩
    · have := ready_mono hj hji
      rw [H.1] at this
      cases this
  | succ fuel ih =>
    intro listed a w hfree hr hy H
    refine ⟨fun h => (by rw [h] at hr; cases hr), fun j hj => ?_⟩
    by_cases hji : j = i
    · subst hji; exact hy.wpOpIn hfn hi (hdef j oi hi) ⟨fun _ => Keeps.refl w, H⟩
    · have h1 := H.2 j (ready_mono hj hji)
      obtain ⟨hjun, oj, hoj, hall⟩ := mem_ready.1 hj
      have hnot : ∀ e ∈ oj.after, Region.binds md e = true → e.on ≠ i := fun e he hb heq => by
        have h1 := hall e he hb
        have h0 := (mem_ready.1 hr).1
        rw [heq] at h1
        rcases Nat.lt_or_ge i listed.size with h' | h'
        · simp [h'] at h0 h1; rw [h0] at h1; cases h1
        · simp [Array.getElem?_eq_none h'] at h1
      have hjM : j < M := by
        rcases Nat.lt_or_ge j M with h | h
        · exact h
        · obtain ⟨e, he, hb, heq⟩ := hM j oj hoj h
          exact absurd heq (hnot e he hb)
      have h2 := still_put hoj (hdef j oj hoj) (hfree j oj hoj hji hjun hnot) (fun cs b => hsel i oi cs b hi) (fun cs b => hsel j oj cs b hoj) hQ hy h1
      have hfree' : ∀ k ok, ops[k]? = some ok → k ≠ i → (listed.setIfInBounds j true).getD k true = false →
          (∀ e ∈ ok.after, Region.binds md e = true → e.on ≠ i) → oi.apart ops ok = true := fun k ok hk hki hun hno => by
        refine hfree k ok hk hki ?_ hno
        by_cases hjk : j = k
        · subst hjk; exact hjun
        · rw [getD_set_ne true hjk] at hun; exact hun
      refine wpOpIn_mono (fun a' w' h3 => ⟨h3.2.1, ih (listed.setIfInBounds j true) a' w' hfree' (ready_mono hr (Ne.symm hji)) (h3.1.later (h3.2.1 hjM)) ?_⟩) h2
      rw [Array.setIfInBounds_comm _ _ hji]
      exact h3.2.2
/-- One operation's word, as the quiet walk gives it where no call may be entered. -/
theorem still_of_quiet {w : World} {o : Oper} {a : Act} {K : Act → Prop} (h : if Region.wanted o (yielded ops a.tmps) then o.quietIn Fence.still 0 P a (fun w' => ∃ q : Since w, w' = q.W) K else K (a.put o.dst undef)) : ∃ v, Still P ops w o v a ∧ K (a.put o.dst v) := by
  split at h
  · rename_i hw
    obtain ⟨v, hv, hK⟩ := h
    refine ⟨v, .inl ⟨hw, fun w' k => ?_⟩, hK⟩
    have h1 := hv w' ⟨⟨w', k⟩, rfl⟩
    unfold Oper.quietAtIn at h1
    revert h1
    generalize (execOp a.eval o).run P w' = r
    cases r with
    | halt x w2 => exact fun h => h.elim
    | ok x w2 =>
      cases x with
      | value u => rintro ⟨rfl, rfl⟩; exact .inl rfl
      | skip => rintro ⟨rfl, rfl⟩; exact .inr ⟨rfl, rfl⟩
      | enter f args => rintro ⟨_, h2, _⟩; have := h2 rfl; omega
      | _ => exact fun h => False.elim h
  · rename_i hw
    exact ⟨undef, .inr ⟨by simpa using hw, rfl⟩, h⟩

def opsAt (ops : List Oper) (l : List Nat) : List Oper := l.filterMap (ops[·]?)
/-- The walk, by the operations' numbers: parts that only read (0), calls that keep what lay there, one by one (1), what comes behind all of them, one by one (2), a call that panics (3). -/
def wpMix (F : Fence) (n : Nat) (P : Program) (ops : List Oper) (Q : Exit → Act → World → Prop) : List (Nat × List Nat) → Act → World → Prop
  | [], a, w => Q .normal a w
  | (0, l) :: r, a, w => wpQuietIn Fence.still 0 P ops.toArray (fun w' => ∃ q : Since w, w' = q.W) (fun a' => wpMix F n P ops Q r a' w) (opsAt ops l) a
  | (1, [i]) :: r, a, w => wpListIn F n P ops.toArray (fun e a' w' => e = .normal ∧ Keeps w w' ∧ wpMix F n P ops Q r a' w') (opsAt ops [i]) a w
  | (2, [i]) :: r, a, w => wpListIn F n P ops.toArray (fun e a' w' => e = .normal ∧ wpMix F n P ops Q r a' w') (opsAt ops [i]) a w
  | (3, [i]) :: _, a, w => wpListIn F n P ops.toArray (fun e a' w' => (∃ c, e = .panic c) ∧ Q e a' w') (opsAt ops [i]) a w
  | _ :: _, _, _ => False
def quietB (md : Region.Mode) (ops : List Oper) (M : Nat) : List Nat → Array Bool → Bool
  | [], _ => true
  | i :: l, L => decide (i < M) && decide (i < ops.length) && (Region.ready md ops.toArray L).contains i && Region.free md ops.toArray L i && quietB md ops M l (L.setIfInBounds i true)
def setAll (L : Array Bool) (l : List Nat) : Array Bool := l.foldl (fun L i => L.setIfInBounds i true) L
def mixFrom (md : Region.Mode) (ops : List Oper) (M : Nat) : List (Nat × List Nat) → Array Bool → Bool
  | [], L => Region.ready md ops.toArray L == []
  | (k, l) :: r, L => (if k = 0 then quietB md ops M l L
      else Region.ready md ops.toArray L == l && l.all (fun i => decide (i < ops.length)) && (if k = 2 then l.all fun i => decide (M ≤ i) else true)) && (if k = 3 then true else mixFrom md ops M r (setAll L l))
def lastB (md : Region.Mode) (ops : List Oper) (M : Nat) : Bool := (List.range' M (ops.length - M)).all fun j => (List.range M).all fun i => (depsOf md ops j).contains i

theorem quiet_seg {ops : List Oper} (hfn : ∀ f, F.fn f) (hdef : ∀ (j : Nat) (o : Oper), ops.toArray[j]? = some o → ∀ c, o.op ≠ .defer c) (hsel : ∀ (j : Nat) (o : Oper) cs b, ops.toArray[j]? = some o → o.op ≠ .select cs b) (hQ : ∀ c a a' w, a.defers = a'.defers → Q (.panic c) a w → Q (.panic c) a' w) {M : Nat} (hM : ∀ (i j : Nat) (o : Oper), ops.toArray[j]? = some o → i < M → M ≤ j → ∃ e ∈ o.after, Region.binds md e = true ∧ e.on = i) {w : World} {Qf : Act → Prop} (m : Nat) :
    ∀ (l : List Nat) (L : Array Bool) (a : Act), quietB md ops M l L = true → (∀ a', Qf a' → wpAnyK F n P md ops.toArray Q M m (setAll L l) a' w) → wpQuietIn Fence.still 0 P ops.toArray (fun w' => ∃ q : Since w, w' = q.W) Qf (opsAt ops l) a → wpAnyK F n P md ops.toArray Q M (m + l.length) L a w
  | [], L, a, _, hq, h => hq a h
  | i :: l, L, a, hB, hq, h => by
    simp only [quietB, Bool.and_eq_true, decide_eq_true_eq, List.contains_iff_mem] at hB
    obtain ⟨⟨⟨⟨hiM, hlt⟩, hr⟩, hf⟩, hB⟩ := hB
    have ho : ops[i]? = some ops[i] := List.getElem?_eq_getElem hlt
    have ho' : ops.toArray[i]? = some ops[i] := by rw [List.getElem?_toArray]; exact ho
    rw [opsAt, List.filterMap_cons_some ho] at h
    obtain ⟨v, hy, hK⟩ := still_of_quiet h.2
    have ih := quiet_seg hfn hdef hsel hQ hM m l (L.setIfInBounds i true) (a.put ops[i].dst v) hB (fun a' h' => hq a' h') hK
    rw [List.length_cons, ← Nat.add_assoc]
    exact firstK hfn ho' hiM (fun j o hj h => hM i j o hj hiM h) hdef hsel (fun c a w h => hQ c _ _ w (by cases ops[i].dst <;> rfl) h) (m + l.length) L a w (Region.free_spec ho' hf) hr hy ih
theorem mono_op {ops : List Oper} {i : Nat} {o : Oper} (ho : ops[i]? = some o) {A B : Exit → Act → World → Prop} {K : Act → World → Prop} {a : Act} {w : World} (hA : ∀ e a w, A e a w → (e = .normal ∧ K a w) ∨ ((∃ c, e = .panic c) ∧ B e a w)) (h : wpListIn F n P ops.toArray A [o] a w) : wpOpIn F n P ops.toArray B i K a w := by
  have hN : ∀ a w, A .normal a w → K a w := fun a w h => by
    rcases hA _ _ _ h with ⟨_, h⟩ | ⟨⟨c, e⟩, _⟩
    · exact h
    · cases e
  have hP : ∀ c a w, A (.panic c) a w → B (.panic c) a w := fun c a w h => by
    rcases hA _ _ _ h with ⟨e, _⟩ | ⟨_, h⟩
    · cases e
    · exact h
  have hO : ∀ {p : Prop} a w, A .outgrown a w → p := fun a w h => by
    rcases hA _ _ _ h with ⟨e, _⟩ | ⟨⟨c, e⟩, _⟩ <;> cases e
  unfold wpListIn at h
  unfold wpOpIn
  simp only [List.getElem?_toArray, ho]
  split
  · rename_i hw
    rw [if_pos hw] at h
    obtain ⟨h1, h2⟩ := h
    refine ⟨h1, ?_⟩
    revert h2
    generalize (o.semAt F.round a.eval).run P w = x
    cases x with
    | halt y w2 => cases y <;> simp only [Oper.uponIn] <;> first | exact fun h => h.elim | exact fun h => hP _ _ _ h | (rintro ⟨a, w, h⟩; exact hO _ _ h) | exact fun h => h
    | ok y w2 =>
      cases y <;> simp only [Oper.uponIn]
      case value u => exact fun h => hN _ _ h
      case skip => exact fun h => hN _ _ h
      case defer d => exact fun h => hN _ _ h
      case enter f args =>
        rintro ⟨h3, h4⟩
        refine ⟨h3, CallsIn.mono h4 fun e w'' he => ?_⟩
        cases e with
        | returned u => exact hN _ _ he
        | panicked c => exact hP _ _ _ he
        | outgrown =>
          obtain ⟨_, _, h5⟩ := he
          exact hO _ _ h5
      case row row args =>
        rintro ⟨h3, h4⟩
        exact ⟨h3, RowsIn.mono h4 fun u w'' he => hN _ _ he⟩
      case round l f tmps assign body =>
        rintro ⟨h3, h4⟩
        refine ⟨h3, RoundIn.mono h4 fun e w'' he => ?_⟩
        cases e with
        | returned u => exact hN _ _ he
        | panicked c => exact hP _ _ _ he
        | outgrown =>
          obtain ⟨_, _, h5⟩ := he
          exact hO _ _ h5
      all_goals exact fun h => h.elim
  · rename_i hw
    rw [if_neg hw] at h
    exact ⟨h.1, hN _ _ h.2⟩
theorem wpAnyK_done {M : Nat} {listed : Array Bool} {a : Act} {w : World} (hr : Region.ready md ops listed = []) (h : Q .normal a w) : ∀ fuel, wpAnyK F n P md ops Q M fuel listed a w
  | 0 => ⟨hr, h⟩
  | _ + 1 => ⟨fun _ => h, by rw [hr]; simp⟩
theorem mix_any {ops : List Oper} {M : Nat} (hfn : ∀ f, F.fn f) (hdef : ∀ (j : Nat) (o : Oper), ops.toArray[j]? = some o → ∀ c, o.op ≠ .defer c) (hsel : ∀ (j : Nat) (o : Oper) cs b, ops.toArray[j]? = some o → o.op ≠ .select cs b) (hQ : ∀ c a a' w, a.defers = a'.defers → Q (.panic c) a w → Q (.panic c) a' w)
    (hM : ∀ (i j : Nat) (o : Oper), ops.toArray[j]? = some o → i < M → M ≤ j → ∃ e ∈ o.after, Region.binds md e = true ∧ e.on = i) (segs : List (Nat × List Nat)) :
    ∀ (fuel : Nat) (L : Array Bool) (a : Act) (w : World), (segs.flatMap (·.2)).length ≤ fuel → mixFrom md ops M segs L = true → wpMix F n P ops Q segs a w → wpAnyK F n P md ops.toArray Q M fuel L a w := by
  induction segs with
  | nil =>
    intro fuel L a w _ hB h
    simp only [mixFrom, beq_iff_eq] at hB
    exact wpAnyK_done hB h fuel
  | cons s r ih =>
    intro fuel L a w hf hB h
    obtain ⟨k, l⟩ := s
    rw [mixFrom, Bool.and_eq_true] at hB
    rw [List.flatMap_cons, List.length_append] at hf
    dsimp only at hf
    by_cases hk0 : k = 0
    · subst hk0
      rw [if_pos rfl, if_neg (by decide)] at hB
      unfold wpMix at h
      obtain ⟨m, rfl⟩ : ∃ m, fuel = m + l.length := ⟨fuel - l.length, by omega⟩
      exact quiet_seg hfn hdef hsel hQ hM m l L a hB.1 (fun a' h' => ih m (setAll L l) a' w (by omega) hB.2 h') h
    · rw [if_neg hk0] at hB
      simp only [Bool.and_eq_true, beq_iff_eq, List.all_eq_true, decide_eq_true_eq] at hB
      obtain ⟨⟨⟨hr, hlen⟩, hM2⟩, hB2⟩ := hB
      have hone : ∃ i, l = [i] ∧ (k = 1 ∨ k = 2 ∨ k = 3) := by
        match k, l, h, hk0 with
        | 1, [o], _, _ => exact ⟨o, rfl, .inl rfl⟩
        | 2, [o], _, _ => exact ⟨o, rfl, .inr (.inl rfl)⟩
        | 3, [o], _, _ => exact ⟨o, rfl, .inr (.inr rfl)⟩
        | 0, _, _, h0 => exact absurd rfl h0
        | 1, [], h, _ => exact h.elim
        | 1, _ :: _ :: _, h, _ => exact h.elim
        | 2, [], h, _ => exact h.elim
        | 2, _ :: _ :: _, h, _ => exact h.elim
        | 3, [], h, _ => exact h.elim
        | 3, _ :: _ :: _, h, _ => exact h.elim
        | n + 4, _, h, _ => exact h.elim
      obtain ⟨i, rfl, hk⟩ := hone
      have hlt : i < ops.length := hlen i (by simp)
      have ho : ops[i]? = some ops[i] := List.getElem?_eq_getElem hlt
      obtain ⟨m, rfl⟩ : ∃ m, fuel = m + 1 := ⟨fuel - 1, by simp at hf; omega⟩
      have hopl : opsAt ops [i] = [ops[i]] := by rw [opsAt, List.filterMap_cons_some ho, List.filterMap_nil]
      refine ⟨fun e => (by rw [hr] at e; cases e), fun j hj => ?_⟩
      rw [hr, List.mem_singleton] at hj
      subst hj
      rcases hk with rfl | rfl | rfl
      · rw [if_neg (by decide)] at hB2
        have h' : wpListIn F n P ops.toArray (fun e a' w' => e = .normal ∧ Keeps w w' ∧ wpMix F n P ops Q r a' w') (opsAt ops [j]) a w := h
        rw [hopl] at h'
        exact mono_op ho (fun e a w h => .inl ⟨h.1, fun _ => h.2.1, ih m _ _ _ (by rw [List.length_singleton] at hf; omega) hB2 h.2.2⟩) h'
      · rw [if_neg (by decide)] at hB2
        have h' : wpListIn F n P ops.toArray (fun e a' w' => e = .normal ∧ wpMix F n P ops Q r a' w') (opsAt ops [j]) a w := h
        rw [hopl] at h'
        have hMj : M ≤ j := by simpa using hM2
        exact mono_op ho (fun e a w h => .inl ⟨h.1, fun h' => absurd h' (by omega), ih m _ _ _ (by rw [List.length_singleton] at hf; omega) hB2 h.2⟩) h'
      · have h' : wpListIn F n P ops.toArray (fun e a' w' => (∃ c, e = .panic c) ∧ Q e a' w') (opsAt ops [j]) a w := h
        rw [hopl] at h'
        exact mono_op ho (fun e a w h => .inr h) h'
theorem region_mix {id : Nat} {a : Act} {w : World} {opsl : List Oper} (M : Nat) (segs : List (Nat × List Nat)) (hfn : ∀ f, F.fn f) (hQ : ∀ c a a' w, a.defers = a'.defers → Q (.panic c) a w → Q (.panic c) a' w) (hd : noDefer opsl = true) (hm : P.follows .mixedOrders = true) (hn : Region.noSelect opsl.toArray = true)
    (hB : (mixFrom .any opsl M segs (Array.replicate opsl.length false) && lastB .any opsl M && decide ((segs.flatMap (·.2)).length ≤ opsl.length)) = true) (h : wpMix F n P opsl Q segs a w.drew) : (Code.region id opsl.toArray true).wpIn F n P Q a w := by
  refine wpIn_region_any hm ?_
  simp only [Bool.and_eq_true, decide_eq_true_eq] at hB
  have hM : ∀ (i j : Nat) (o : Oper), opsl.toArray[j]? = some o → i < M → M ≤ j → ∃ e ∈ o.after, Region.binds .any e = true ∧ e.on = i := fun i j o ho hi hj => by
    rw [List.getElem?_toArray] at ho
    have h1 := (List.getElem?_eq_some_iff.1 ho).1
    have h2 := hB.1.2
    simp only [lastB, List.all_eq_true, List.mem_range'_1, List.mem_range, List.contains_iff_mem] at h2
    exact (depsOf_mem ho).1 (h2 j ⟨hj, by omega⟩ i hi)
  have h1 := mix_any (F := F) (n := n) (P := P) (md := .any) (Q := Q) (M := M) hfn (fun j o ho => noDefer_at (l := opsl) (i := j) hd (by simpa using ho)) (Region.noSelect_spec hn) hQ hM segs opsl.length (Array.replicate opsl.length false) a w.drew hB.2 hB.1.1 h
  have h2 := wpAnyK_any _ _ _ _ h1
  simpa using h2
end
end Go.Proofs.Ytmhpgjlegajpeaa

namespace Go.Proofs.Ytmhpgjlegajpeaa
structure Inw (C : World → Prop) where
  W : World
  h : C W
section
variable {F : Fence} {n : Nat} {P : Program} {ops : Array Oper} {md : Region.Mode} {Q : Exit → Act → World → Prop} {C : World → Prop}

/-- In every world of the class the operation gives v, and turns nothing. -/
def StillC (P : Program) (ops : Array Oper) (C : World → Prop) (o : Oper) (v : Value) (a : Act) : Prop :=
  (Region.wanted o (yielded ops a.tmps) = true ∧ ∀ w', C w' → (execOp a.eval o).run P w' = .ok (.value v) w' ∨ ((execOp a.eval o).run P w' = .ok .skip w' ∧ v = undef)) ∨ (Region.wanted o (yielded ops a.tmps) = false ∧ v = undef)
theorem StillC.wpOpIn {i : Nat} {o : Oper} {v : Value} {a : Act} {w : World} (hfn : ∀ f, F.fn f) (hi : ops[i]? = some o) (hd : ∀ c, o.op ≠ .defer c) (hy : StillC P ops C o v a) (hC : C w) {K : Act → World → Prop} (h : K (a.put o.dst v) w) : wpOpIn F n P ops Q i K a w := by
  unfold Go.wpOpIn
  simp only [hi]
  rcases hy with ⟨hw, hv⟩ | ⟨hw, rfl⟩
  · simp only [hw, if_true, Oper.wpIn, Oper.semAt_eq _ _ _ hd]
    refine ⟨fun f _ => hfn f, ?_⟩
    rcases hv w hC with h2 | ⟨h2, e⟩
    · rw [h2]; exact h
    · rw [h2]; subst e; exact h
  · simp only [hw, Bool.false_eq_true, if_false]; exact ⟨fun f _ => hfn f, h⟩
theorem StillC.of_same {o : Oper} {v : Value} {a a' : Act} (hy : StillC P ops C o v a) (he : execOp a'.eval o = execOp a.eval o) (hw : Region.wanted o (yielded ops a'.tmps) = Region.wanted o (yielded ops a.tmps)) : StillC P ops C o v a' := by
  unfold StillC
  rw [he, hw]
  exact hy
theorem stillC_put {j : Nat} {oi oj : Oper} {v : Value} (hj : ops[j]? = some oj) (hdj : ∀ c, oj.op ≠ .defer c) (hap : oi.apart ops oj = true)
    (hsi : ∀ cs b, oi.op ≠ .select cs b) (hsj : ∀ cs b, oj.op ≠ .select cs b)
    (hQ : ∀ c a w, Q (.panic c) (a.put oi.dst v) w → Q (.panic c) a w) {K : Act → World → Prop} {a : Act} {w : World}
    (hy : StillC P ops C oi v a) (h : wpOpIn F n P ops Q j K (a.put oi.dst v) w) :
    wpOpIn F n P ops Q j (fun a' w' => StillC P ops C oi v a' ∧ K (a'.put oi.dst v) w') a w := by
  obtain ⟨h1, h2, h3⟩ := Oper.apart_spec hap
  have keep : ∀ (a : Act), StillC P ops C oi v a → ∀ u, StillC P ops C oi v (a.put oj.dst u) := fun a hy u =>
    hy.of_same (execOp_put oi hsi a oj.dst u h3) (wanted_put oi a oj.dst u h3)
  have keepD : ∀ d, StillC P ops C oi v { a with defers := d :: a.defers } := fun d => hy.of_same rfl rfl
  unfold wpOpIn at *
  simp only [hj] at *
  rw [wanted_put oj a oi.dst v h1, about_put oj w a oi.dst v h1] at h
  split
  · rename_i hw
    simp only [hw, if_true] at h
    unfold Oper.wpIn at *
    rw [about_put oj w a oi.dst v h1] at h
    refine ⟨h.1, ?_⟩
    have h := h.2
    rw [Oper.semAt_eq _ _ _ hdj, execOp_put oj hsj a oi.dst v h1] at h
    rw [Oper.semAt_eq _ _ _ hdj]
    generalize (execOp a.eval oj).run P w = r at *
    cases r with
    | ok x w' =>
      cases x <;> simp only [Oper.uponIn] at h ⊢
      case value u => exact ⟨keep a hy u, by rw [← Act.put_comm a v u h2]; exact h⟩
      case skip => exact ⟨keep a hy _, by rw [← Act.put_comm a v undef h2]; exact h⟩
      case defer d =>
        refine ⟨keep _ (keepD d) _, ?_⟩
        rw [← Act.put_comm _ v undef h2, ← Act.put_defers]
        exact h
      case enter f args =>
        refine ⟨h.1, CallsIn.mono h.2 fun e w'' he => ?_⟩
        cases e with
        | returned u => exact ⟨keep a hy u, by rw [← Act.put_comm a v u h2]; exact he⟩
        | panicked c => exact hQ _ _ _ he
        | outgrown => exact he
      case row row args => exact ⟨h.1, RowsIn.mono h.2 fun u w'' he => ⟨keep a hy u, by rw [← Act.put_comm a v u h2]; exact he⟩⟩
      case round l f tmps assign body =>
        refine ⟨h.1, RoundIn.mono h.2 fun e w'' he => ?_⟩
        cases e with
        | returned u => exact ⟨keep a hy u, by rw [← Act.put_comm a v u h2]; exact he⟩
        | panicked c => exact hQ _ _ _ he
        | outgrown => exact he
    | halt x w' =>
      cases x <;> simp only [Oper.uponIn] at h ⊢
      case panic u => exact hQ _ _ _ h
  · rename_i hw
    simp only [hw] at h
    exact ⟨h.1, keep a hy _, by rw [← Act.put_comm a v undef h2]; exact h.2⟩
/-- An operation that waits for all others. -/
def Lst (md : Region.Mode) (ops : Array Oper) (j : Nat) : Prop := ∀ oj, ops[j]? = some oj → ∀ i, i ≠ j → i < ops.size → ∃ e ∈ oj.after, Region.binds md e = true ∧ e.on = i
/-- Every order, each step staying in the class, but for one that waits for all others. -/
def wpAnyC (F : Fence) (n : Nat) (P : Program) (md : Region.Mode) (ops : Array Oper) (Q : Exit → Act → World → Prop) (C : World → Prop) : Nat → Array Bool → Act → World → Prop
  | 0, listed, a, w => Region.ready md ops listed = [] ∧ Q .normal a w
  | fuel + 1, listed, a, w => (Region.ready md ops listed = [] → Q .normal a w) ∧ ∀ i ∈ Region.ready md ops listed, wpOpIn F n P ops Q i (fun a' w' => (C w' ∨ Lst md ops i) ∧ wpAnyC F n P md ops Q C fuel (listed.setIfInBounds i true) a' w') a w
theorem wpAnyC_any : ∀ (fuel : Nat) (listed : Array Bool) (a : Act) (w : World), wpAnyC F n P md ops Q C fuel listed a w → wpAnyIn F n P md ops Q fuel listed a w
  | 0, _, _, _, h => h
  | fuel + 1, _, _, _, h => ⟨h.1, fun i hi => wpOpIn_mono (fun a' w' h' => wpAnyC_any fuel _ a' w' h'.2) (h.2 i hi)⟩
theorem wpAnyC_mono {C' : World → Prop} (hC : ∀ w, C' w → C w) : ∀ (fuel : Nat) (listed : Array Bool) (a : Act) (w : World), wpAnyC F n P md ops Q C' fuel listed a w → wpAnyC F n P md ops Q C fuel listed a w
  | 0, _, _, _, h => h
  | fuel + 1, _, _, _, h => ⟨h.1, fun i hi => wpOpIn_mono (fun a' w' h' => ⟨h'.1.imp (hC _) id, wpAnyC_mono hC fuel _ a' w' h'.2⟩) (h.2 i hi)⟩
theorem firstC {i : Nat} {oi : Oper} {v : Value} (hfn : ∀ f, F.fn f) (hi : ops[i]? = some oi) (hdef : ∀ (j : Nat) (o : Oper), ops[j]? = some o → ∀ c, o.op ≠ .defer c) (hsel : ∀ (j : Nat) (o : Oper) cs b, ops[j]? = some o → o.op ≠ .select cs b)
    (hQ : ∀ c a w, Q (.panic c) (a.put oi.dst v) w → Q (.panic c) a w) :
    ∀ (fuel : Nat) (listed : Array Bool) (a : Act) (w : World),
      (∀ j oj, ops[j]? = some oj → j ≠ i → listed.getD j true = false → (∀ e ∈ oj.after, Region.binds md e = true → e.on ≠ i) → oi.apart ops oj = true) →
      i ∈ Region.ready md ops listed → StillC P ops C oi v a → C w →
      wpAnyC F n P md ops Q C fuel (listed.setIfInBounds i true) (a.put oi.dst v) w → wpAnyC F n P md ops Q C (fuel + 1) listed a w := by
  intro fuel
  induction fuel with
  | zero =>
    intro listed a w _ hr hy hC H
    refine ⟨fun h => (by rw [h] at hr; cases hr), fun j hj => ?_⟩
    by_cases hji : j = i
    · subst hji; exact hy.wpOpIn hfn hi (hdef j oi hi) hC ⟨.inl hC, H⟩
    · have := ready_mono hj hji
      rw [H.1] at this
      cases this
  | succ fuel ih =>
    intro listed a w hfree hr hy hC H
    refine ⟨fun h => (by rw [h] at hr; cases hr), fun j hj => ?_⟩
    by_cases hji : j = i
    · subst hji; exact hy.wpOpIn hfn hi (hdef j oi hi) hC ⟨.inl hC, H⟩
    · have h1 := H.2 j (ready_mono hj hji)
      obtain ⟨hjun, oj, hoj, hall⟩ := mem_ready.1 hj
      have hnot : ∀ e ∈ oj.after, Region.binds md e = true → e.on ≠ i := fun e he hb heq => by
        have h1 := hall e he hb
        have h0 := (mem_ready.1 hr).1
        rw [heq] at h1
        rcases Nat.lt_or_ge i listed.size with h' | h'
        · simp [h'] at h0 h1; rw [h0] at h1; cases h1
        · simp [Array.getElem?_eq_none h'] at h1
      have h2 := stillC_put hoj (hdef j oj hoj) (hfree j oj hoj hji hjun hnot) (fun cs b => hsel i oi cs b hi) (fun cs b => hsel j oj cs b hoj) hQ hy h1
      have hfree' : ∀ k ok, ops[k]? = some ok → k ≠ i → (listed.setIfInBounds j true).getD k true = false →
          (∀ e ∈ ok.after, Region.binds md e = true → e.on ≠ i) → oi.apart ops ok = true := fun k ok hk hki hun hno => by
        refine hfree k ok hk hki ?_ hno
        by_cases hjk : j = k
        · subst hjk; exact hjun
        · rw [getD_set_ne true hjk] at hun; exact hun
      refine wpOpIn_mono (fun a' w' h3 => ⟨h3.2.1, ih (listed.setIfInBounds j true) a' w' hfree' (ready_mono hr (Ne.symm hji)) h3.1 (h3.2.1.resolve_right (fun e => by obtain ⟨x, hx, hb, ho⟩ := e oj hoj i (Ne.symm hji) (Array.getElem?_eq_some_iff.1 hi).1; exact hnot x hx hb ho)) ?_⟩) h2
      rw [Array.setIfInBounds_comm _ _ hji]
      exact h3.2.2
theorem stillC_of_quiet {o : Oper} {a : Act} {K : Act → Prop} (h : if Region.wanted o (yielded ops a.tmps) then o.quietIn Fence.still 0 P a (fun w' => ∃ q : Inw C, w' = q.W) K else K (a.put o.dst undef)) : ∃ v, StillC P ops C o v a ∧ K (a.put o.dst v) := by
  split at h
  · rename_i hw
    obtain ⟨v, hv, hK⟩ := h
    refine ⟨v, .inl ⟨hw, fun w' k => ?_⟩, hK⟩
    have h1 := hv w' ⟨⟨w', k⟩, rfl⟩
    unfold Oper.quietAtIn at h1
    revert h1
    generalize (execOp a.eval o).run P w' = r
    cases r with
    | halt x w2 => exact fun h => h.elim
    | ok x w2 =>
      cases x with
      | value u => rintro ⟨rfl, rfl⟩; exact .inl rfl
      | skip => rintro ⟨rfl, rfl⟩; exact .inr ⟨rfl, rfl⟩
      | enter f args => rintro ⟨_, h2, _⟩; have := h2 rfl; omega
      | _ => exact fun h => False.elim h
  · rename_i hw
    exact ⟨undef, .inr ⟨by simpa using hw, rfl⟩, h⟩
def quietC (md : Region.Mode) (ops : List Oper) : List Nat → Array Bool → Bool
  | [], _ => true
  | i :: l, L => decide (i < ops.length) && (Region.ready md ops.toArray L).contains i && Region.free md ops.toArray L i && quietC md ops l (L.setIfInBounds i true)
structure CixOk (F : Fence) (P : Program) (Q : Exit → Act → World → Prop) (ops : List Oper) : Prop where
  hfn : ∀ f, F.fn f
  hdef : ∀ (j : Nat) (o : Oper), ops.toArray[j]? = some o → ∀ c, o.op ≠ .defer c
  hsel : ∀ (j : Nat) (o : Oper) cs b, ops.toArray[j]? = some o → o.op ≠ .select cs b
  hQ : ∀ c a a' w, a.defers = a'.defers → Q (.panic c) a w → Q (.panic c) a' w
theorem CixOk.of {ops : List Oper} (hfn : ∀ f, F.fn f) (hQ : ∀ c a a' w, a.defers = a'.defers → Q (.panic c) a w → Q (.panic c) a' w) (hB : (noDefer ops && Region.noSelect ops.toArray) = true) : CixOk F P Q ops := by
  simp only [Bool.and_eq_true] at hB
  obtain ⟨h1, h2⟩ := hB
  exact ⟨hfn, fun j o ho => noDefer_at (l := ops) (i := j) h1 (by simpa using ho), Region.noSelect_spec h2, hQ⟩
theorem cix_start {id : Nat} {a : Act} {w : World} {ops : List Oper} (hm : P.follows .mixedOrders = true) (C : World → Prop) (h : wpAnyC F n P .any ops.toArray Q C ops.length (Array.replicate ops.length false) a w.drew) : (Code.region id ops.toArray true).wpIn F n P Q a w := by
  refine wpIn_region_any hm ?_
  simpa using wpAnyC_any _ _ _ _ h
theorem cix_rebase {m : Nat} {ops : List Oper} {L : Array Bool} {a : Act} {w : World} (C' : World → Prop) (hC : ∀ w, C' w → C w) (h : wpAnyC F n P .any ops.toArray Q C' m L a w) : wpAnyC F n P .any ops.toArray Q C m L a w := wpAnyC_mono hC _ _ _ _ h
theorem quiet_segC {ops : List Oper} (ok : CixOk F P Q ops) {w : World} (hC : C w) {Qf : Act → Prop} (m : Nat) :
    ∀ (l : List Nat) (L : Array Bool) (a : Act), quietC .any ops l L = true → (∀ a', Qf a' → wpAnyC F n P .any ops.toArray Q C m (setAll L l) a' w) → wpQuietIn Fence.still 0 P ops.toArray (fun w' => ∃ q : Inw C, w' = q.W) Qf (opsAt ops l) a → wpAnyC F n P .any ops.toArray Q C (m + l.length) L a w
  | [], L, a, _, hq, h => hq a h
  | i :: l, L, a, hB, hq, h => by
    simp only [quietC, Bool.and_eq_true, decide_eq_true_eq, List.contains_iff_mem] at hB
    obtain ⟨⟨⟨hlt, hr⟩, hf⟩, hB⟩ := hB
    have ho : ops[i]? = some ops[i] := List.getElem?_eq_getElem hlt
    have ho' : ops.toArray[i]? = some ops[i] := by rw [List.getElem?_toArray]; exact ho
    rw [opsAt, List.filterMap_cons_some ho] at h
    obtain ⟨v, hy, hK⟩ := stillC_of_quiet h.2
    have ih := quiet_segC ok hC m l (L.setIfInBounds i true) (a.put ops[i].dst v) hB (fun a' h' => hq a' h') hK
    rw [List.length_cons, ← Nat.add_assoc]
    exact firstC ok.hfn ho' ok.hdef ok.hsel (fun c a w h => ok.hQ c _ _ w (by cases ops[i].dst <;> rfl) h) (m + l.length) L a w (Region.free_spec ho' hf) hr hy hC ih
theorem cix_quiet {m k : Nat} {ops : List Oper} {L : Array Bool} {a : Act} {w : World} (ok : CixOk F P Q ops) (l : List Nat) (hk : k = m + l.length) (hB : quietC .any ops l L = true) (hC : C w)
    (h : wpQuietIn Fence.still 0 P ops.toArray (fun w' => ∃ q : Inw C, w' = q.W) (fun a' => wpAnyC F n P .any ops.toArray Q C m (setAll L l) a' w) (opsAt ops l) a) : wpAnyC F n P .any ops.toArray Q C k L a w := by
  subst hk
  exact quiet_segC ok hC m l L a hB (fun _ h => h) h
theorem cix_one {m k : Nat} {ops : List Oper} {L : Array Bool} {a : Act} {w : World} (i : Nat) (o : Oper) (hk : k = m + 1) (ho : ops[i]? = some o) (hr : (Region.ready .any ops.toArray L == [i]) = true)
    (h : wpListIn F n P ops.toArray (fun e a' w' => (e = .normal ∧ C w' ∧ wpAnyC F n P .any ops.toArray Q C m (L.setIfInBounds i true) a' w') ∨ ((∃ c, e = .panic c) ∧ Q e a' w')) [o] a w) : wpAnyC F n P .any ops.toArray Q C k L a w := by
  subst hk
  rw [beq_iff_eq] at hr
  refine ⟨fun e => (by rw [hr] at e; cases e), fun j hj => ?_⟩
  rw [hr, List.mem_singleton] at hj
  subst hj
  exact mono_op ho (fun e a w h => h.imp (fun h => ⟨h.1, .inl h.2.1, h.2.2⟩) id) h
theorem cix_two {m k : Nat} {ops : List Oper} {L : Array Bool} {a : Act} {w : World} (i : Nat) (o : Oper) (i' : Nat) (o' : Oper) (hk : k = m + 1) (ho : ops[i]? = some o) (ho' : ops[i']? = some o') (hr : (Region.ready .any ops.toArray L == [i, i']) = true)
    (h : wpListIn F n P ops.toArray (fun e a' w' => (e = .normal ∧ C w' ∧ wpAnyC F n P .any ops.toArray Q C m (L.setIfInBounds i true) a' w') ∨ ((∃ c, e = .panic c) ∧ Q e a' w')) [o] a w)
    (h' : wpListIn F n P ops.toArray (fun e a' w' => (e = .normal ∧ C w' ∧ wpAnyC F n P .any ops.toArray Q C m (L.setIfInBounds i' true) a' w') ∨ ((∃ c, e = .panic c) ∧ Q e a' w')) [o'] a w) : wpAnyC F n P .any ops.toArray Q C k L a w := by
  subst hk
  rw [beq_iff_eq] at hr
  refine ⟨fun e => (by rw [hr] at e; cases e), fun j hj => ?_⟩
  rw [hr] at hj
  rcases List.mem_cons.1 hj with e | hj
  · subst e
    exact mono_op ho (fun e a w h => h.imp (fun h => ⟨h.1, .inl h.2.1, h.2.2⟩) id) h
  · rw [List.mem_singleton] at hj
    subst hj
    exact mono_op ho' (fun e a w h => h.imp (fun h => ⟨h.1, .inl h.2.1, h.2.2⟩) id) h'
theorem cix_done {ops : List Oper} {L : Array Bool} {a : Act} {w : World} (hr : (Region.ready .any ops.toArray L == []) = true) (h : Q .normal a w) : ∀ k, wpAnyC F n P .any ops.toArray Q C k L a w
  | 0 => ⟨by rw [beq_iff_eq] at hr; exact hr, h⟩
  | _ + 1 => ⟨fun _ => h, by rw [beq_iff_eq] at hr; rw [hr]; simp⟩
theorem cix_last {m k : Nat} {ops : List Oper} {L : Array Bool} {a : Act} {w : World} (i : Nat) (o : Oper) (hk : k = m + 1) (ho : ops[i]? = some o) (hr : (Region.ready .any ops.toArray L == [i]) = true) (hr2 : (Region.ready .any ops.toArray (L.setIfInBounds i true) == []) = true)
    (hl : ((List.range ops.length).all fun i' => i' == i || (depsOf .any ops i).contains i') = true)
    (h : wpListIn F n P ops.toArray (fun e a' w' => (e = .normal ∧ Q .normal a' w') ∨ ((∃ c, e = .panic c) ∧ Q e a' w')) [o] a w) : wpAnyC F n P .any ops.toArray Q C k L a w := by
  subst hk
  rw [beq_iff_eq] at hr
  have hL : Lst .any ops.toArray i := fun oj hoj i' hi' hlt => by
    have h1 := List.all_eq_true.1 hl i' (List.mem_range.2 (by simpa using hlt))
    simp only [Bool.or_eq_true, beq_iff_eq, List.contains_iff_mem] at h1
    exact (depsOf_mem (by simpa using hoj)).1 (h1.resolve_left hi')
  refine ⟨fun e => (by rw [hr] at e; cases e), fun j hj => ?_⟩
  rw [hr, List.mem_singleton] at hj
  subst hj
  exact mono_op ho (fun e a w h => h.imp (fun h => ⟨h.1, .inr hL, cix_done hr2 h.2 _⟩) id) h
end
end Go.Proofs.Ytmhpgjlegajpeaa
