/-
  A REGION THAT DRAWS ITS ORDER, WHOSE LAST OPERATIONS WAIT FOR ALL BEFORE THEM: one walk in the text's order of those that only read (or call what keeps what lay there), and then the rest one after the other: the first of the rest may be a call of any kind.
-/
import Derived.Test.YtidiikmpgpnmpaaR2
namespace Go.Proofs.Ytidiikmpgpnmpaa
section
variable {F : Fence} {n : Nat} {P : Program}

def depsOf (md : Region.Mode) (ops : List Oper) (j : Nat) : List Nat := ((ops[j]?).map fun o => (o.after.toList.filter (Region.binds md)).map (·.on)).getD []
def cloOf (md : Region.Mode) (ops : List Oper) : Nat → List Nat → List Nat
  | 0, S => S
  | m + 1, S => cloOf md ops m (S ++ ((S.flatMap (depsOf md ops)).filter (fun x => !S.contains x)).eraseDups)
def allTo (m k : Nat) : Array Bool := (List.replicate k true ++ List.replicate (m - k) false).toArray
def guardsIn (k : Nat) (l : List Oper) : Bool := l.all fun o => match o.guard with
  | none => true
  | some (j, _) => decide (j < k)
/-- The first k operations wait for earlier ones alone, each later one for all of these, and the later ones come one after the other. -/
def tailB (md : Region.Mode) (ops : List Oper) (k : Nat) : Bool :=
  decide (k ≤ ops.length) && guardsIn k (ops.take k) && ((List.range k).all fun i => (depsOf md ops i).all fun j => decide (j < i)) &&
  ((List.range' k (ops.length - k)).all fun j => (List.range k).all fun i => (cloOf md ops 8 (depsOf md ops j)).contains i) &&
  ((List.range' k (ops.length - k)).all fun t => Region.ready md ops.toArray (allTo ops.length t) == [t]) && Region.ready md ops.toArray (allTo ops.length ops.length) == []

theorem depsOf_mem {md : Region.Mode} {ops : List Oper} {j : Nat} {o : Oper} (ho : ops[j]? = some o) {x : Nat} : x ∈ depsOf md ops j ↔ ∃ e ∈ o.after, Region.binds md e = true ∧ e.on = x := by
  simp only [depsOf, ho, Option.map_some, Option.getD_some, List.mem_map, List.mem_filter, Array.mem_toList_iff]
  constructor
  · rintro ⟨e, ⟨h1, h2⟩, h3⟩; exact ⟨e, h1, h2, h3⟩
  · rintro ⟨e, h1, h2, h3⟩; exact ⟨e, ⟨h1, h2⟩, h3⟩
theorem cloOf_listed {md : Region.Mode} {ops : List Oper} {T : Nat → Prop} (hT : ∀ j, T j → ∀ x ∈ depsOf md ops j, T x) : ∀ (m : Nat) (S : List Nat), (∀ x ∈ S, T x) → ∀ x ∈ cloOf md ops m S, T x
  | 0, _, h, x, hx => h x hx
  | m + 1, S, h, x, hx => by
    refine cloOf_listed hT m _ (fun y hy => ?_) x hx
    rcases List.mem_append.1 hy with h1 | h1
    · exact h y h1
    · rw [List.mem_eraseDups, List.mem_filter, List.mem_flatMap] at h1
      obtain ⟨⟨j, hj, hy⟩, _⟩ := h1
      exact hT j (h j hj) y hy
theorem yielded_pre {ops : List Oper} {k j : Nat} (h : j < k) (tmps : Array Value) : yielded ops.toArray tmps j = yielded (ops.take k).toArray tmps j := by
  unfold yielded
  simp [h]
theorem wanted_pre {ops : List Oper} {k : Nat} {o : Oper} (hg : guardsIn k [o] = true) (tmps : Array Value) : Region.wanted o (yielded ops.toArray tmps) = Region.wanted o (yielded (ops.take k).toArray tmps) := by
  unfold Region.wanted
  cases h : o.guard with
  | none => rfl
  | some p =>
    obtain ⟨j, b⟩ := p
    simp only [guardsIn, List.all_cons, h, List.all_nil, Bool.and_true, decide_eq_true_eq] at hg
    show (yielded ops.toArray tmps j == some b) = (yielded (ops.take k).toArray tmps j == some b)
    rw [yielded_pre hg]
theorem allTo_getD (m k i : Nat) (d : Bool) : (allTo m k).getD i d = if i < k then true else if i < m then false else d := by
  simp only [allTo, Array.getD_eq_getD_getElem?, List.getElem?_toArray]
  by_cases h : i < k
  · rw [List.getElem?_append_left (by simpa using h)]
    simp [h]
  · rw [List.getElem?_append_right (by simpa using h), if_neg h]
    simp only [List.length_replicate]
    by_cases h2 : i < m
    · rw [if_pos h2, List.getElem?_replicate, if_pos (by omega)]; rfl
    · rw [if_neg h2, List.getElem?_eq_none (by simp; omega)]; rfl
theorem allTo_set (m k : Nat) (h : k < m) : (allTo m k).setIfInBounds k true = allTo m (k + 1) := by
  apply Array.ext_getElem?
  intro i
  simp only [allTo, Array.getElem?_setIfInBounds, List.getElem?_toArray, List.size_toArray, List.length_append, List.length_replicate]
  by_cases e : k = i
  · subst e
    rw [if_pos rfl, if_pos (by omega), List.getElem?_append_left (by simp)]
    simp
  · rw [if_neg e]
    rcases Nat.lt_or_gt_of_ne e with h1 | h1
    · rw [List.getElem?_append_right (by simp; omega), List.getElem?_append_right (by simp; omega)]
      simp only [List.getElem?_replicate, List.length_replicate]
      by_cases h2 : i < m
      · rw [if_pos (by omega), if_pos (by omega)]
      · rw [if_neg (by omega), if_neg (by omega)]
    · rw [List.getElem?_append_left (by simp; omega), List.getElem?_append_left (by simp; omega)]
      simp only [List.getElem?_replicate]
      rw [if_pos (by omega), if_pos (by omega)]
/-- The rest, one operation after the other. -/
theorem any_tail {md : Region.Mode} {ops : List Oper} {k : Nat} {Q : Exit → Act → World → Prop} (hc : ∀ t, k ≤ t → t < ops.length → Region.ready md ops.toArray (allTo ops.length t) = [t]) (he : Region.ready md ops.toArray (allTo ops.length ops.length) = []) :
    ∀ (r t : Nat), r + t = ops.length → k ≤ t → ∀ (a : Act) (w : World), wpListIn F n P ops.toArray Q (ops.drop t) a w → wpAnyIn F n P md ops.toArray Q r (allTo ops.length t) a w
  | 0, t, ht, _, a, w, h => by
    have e : t = ops.length := by omega
    subst e
    rw [List.drop_length] at h
    exact ⟨he, h⟩
  | r + 1, t, ht, hk, a, w, h => by
    have hlt : t < ops.length := by omega
    have hr := hc t hk hlt
    refine ⟨fun e => (by rw [hr] at e; cases e), fun i hi => ?_⟩
    rw [hr, List.mem_singleton] at hi
    subst hi
    rw [List.drop_eq_getElem_cons hlt, wpListIn] at h
    rw [allTo_set _ _ hlt]
    unfold wpOpIn
    simp only [List.getElem?_toArray, List.getElem?_eq_getElem hlt]
    have ih := fun a w h => any_tail (Q := Q) hc he r (i + 1) (by omega) (by omega) a w h
    split
    · rename_i hw
      rw [if_pos hw] at h
      exact Oper.wpIn_mono ih h
    · rename_i hw
      rw [if_neg hw] at h
      exact ⟨h.1, ih _ _ h.2⟩
/-- How many of the first k are not listed. -/
def unlisted (k : Nat) (L : Array Bool) : Nat := (List.range k).countP fun i => !L.getD i true
theorem unlisted_set {k i : Nat} {L : Array Bool} (hi : i < k) (h : L.getD i true = false) : unlisted k L = unlisted k (L.setIfInBounds i true) + 1 := by
  have hs : i < L.size := by
    rcases Nat.lt_or_ge i L.size with h1 | h1
    · exact h1
    · simp [Array.getD_eq_getD_getElem?, Array.getElem?_eq_none h1] at h
  have hg : ∀ j, (L.setIfInBounds i true).getD j true = if i = j then true else L.getD j true := fun j => by
    simp only [Array.getD_eq_getD_getElem?, Array.getElem?_setIfInBounds]
    by_cases e : i = j
    · subst e; simp [hs]
    · simp [e]
  unfold unlisted
  obtain ⟨d, rfl⟩ : ∃ d, k = i + 1 + d := ⟨k - (i + 1), by omega⟩
  rw [List.range_add, List.range_succ]
  simp only [List.countP_append, List.countP_map, List.countP_cons, List.countP_nil, hg, h]
  have e1 : (List.range i).countP (fun j => !(if i = j then true else L.getD j true)) = (List.range i).countP (fun j => !L.getD j true) := by
    refine List.countP_congr fun j hj => ?_
    rw [if_neg (by have := List.mem_range.1 hj; omega)]
  have e2 : (List.range d).countP ((fun j => !(if i = j then true else L.getD j true)) ∘ fun x => i + 1 + x) = (List.range d).countP ((fun j => !L.getD j true) ∘ fun x => i + 1 + x) := by
    refine List.countP_congr fun j _ => ?_
    simp only [Function.comp]
    rw [if_neg (by omega)]
  rw [e1, e2]
  simp
  omega
theorem unlisted_zero {k : Nat} {L : Array Bool} (h : unlisted k L = 0) : ∀ i, i < k → L.getD i true = true := by
  intro i hi
  have := List.countP_eq_zero.1 h i (List.mem_range.2 hi)
  simpa using this
theorem unlisted_pos {k m : Nat} {L : Array Bool} (h : unlisted k L = m + 1) : ∃ i, i < k ∧ L.getD i true = false ∧ ∀ j, j < i → L.getD j true = true := by
  have h1 : ∃ i, i < k ∧ L.getD i true = false := by
    have h0 : 0 < unlisted k L := by omega
    obtain ⟨i, hi, hp⟩ := List.countP_pos_iff.1 h0
    exact ⟨i, List.mem_range.1 hi, by simpa using hp⟩
  obtain ⟨i, hi, hf⟩ := h1
  induction i using Nat.strongRecOn with
  | ind i ih =>
    by_cases hall : ∀ j, j < i → L.getD j true = true
    · exact ⟨i, hi, hf, hall⟩
    · simp only [Classical.not_forall] at hall
      obtain ⟨j, hj, hn⟩ := hall
      exact ih j hj (by omega) (by simpa using hn)
theorem any_prefix {md : Region.Mode} {ops : List Oper} {k : Nat} {C : World → Prop} {Q : Act → Prop} {Q' : Exit → Act → World → Prop} (hd : noDefer (ops.take k) = true) (hk : k ≤ ops.length) (hg : guardsIn k (ops.take k) = true)
    (hlex : ∀ i, i < k → ∀ j ∈ depsOf md ops i, j < i) (hall : ∀ j, k ≤ j → j < ops.length → ∀ i, i < k → i ∈ cloOf md ops 8 (depsOf md ops j))
    (ht : ∀ a w, C w → Q a → wpAnyIn F n P md ops.toArray Q' (ops.length - k) (allTo ops.length k) a w) :
    ∀ (fuel : Nat) (L M : Array Bool) (a : Act) (w : World), L.size = k → M.size = ops.length → (∀ i, i < k → M.getD i true = L.getD i true) → (∀ i, k ≤ i → i < ops.length → M.getD i true = false) →
      (∀ j, M.getD j false = true → ∀ x ∈ depsOf md ops j, M.getD x false = true) → unlisted k L = fuel → C w → wpAnyQIn F n P md (ops.take k).toArray C Q fuel L a → wpAnyIn F n P md ops.toArray Q' (fuel + (ops.length - k)) M a w
  | 0, L, M, a, w, hL, hM, h1, h2, _, hu, hC, h => by
    have hz := unlisted_zero hu
    have e : M = allTo ops.length k := by
      apply Array.ext_getElem?
      intro i
      have q := allTo_getD ops.length k i true
      have hsz : (allTo ops.length k).size = ops.length := by simp [allTo]; omega
      rcases Nat.lt_or_ge i ops.length with hi | hi
      · have hm : M.getD i true = (allTo ops.length k).getD i true := by
          rw [q]
          by_cases hik : i < k
          · rw [if_pos hik, h1 i hik]; exact hz i hik
          · rw [if_neg hik, if_pos hi]; exact h2 i (by omega) hi
        rw [Array.getElem?_eq_getElem (by omega), Array.getElem?_eq_getElem (by omega)]
        simpa [Array.getD_eq_getD_getElem?, Array.getElem?_eq_getElem (show i < M.size by omega), Array.getElem?_eq_getElem (show i < (allTo ops.length k).size by omega)] using hm
      · rw [Array.getElem?_eq_none (by omega), Array.getElem?_eq_none (by omega)]
    rw [e, Nat.zero_add]
    exact ht a w hC h.2
  | fuel + 1, L, M, a, w, hL, hM, h1, h2, h3, hu, hC, h => by
    obtain ⟨i0, hi0, hf0, hl0⟩ := unlisted_pos hu
    have hlist : ∀ x, M.getD x false = true ↔ x < ops.length ∧ M.getD x true = true := fun x => by
      simp only [Array.getD_eq_getD_getElem?]
      rcases Nat.lt_or_ge x ops.length with hx | hx
      · rw [Array.getElem?_eq_getElem (by omega)]; simp [hx]
      · rw [Array.getElem?_eq_none (by omega)]; simp; omega
    have hget : ∀ i, i < k → (ops.take k).toArray[i]? = ops[i]? := fun i hi => by simp [hi]
    have e : fuel + 1 + (ops.length - k) = (fuel + (ops.length - k)) + 1 := by omega
    rw [e]
    refine ⟨fun e0 => ?_, fun i hi => ?_⟩
    · exfalso
      have hr : i0 ∈ Region.ready md ops.toArray M := by
        refine mem_ready.2 ⟨by rw [h1 i0 hi0]; exact hf0, ops[i0], by simp, fun e he hb => ?_⟩
        have hlt := hlex i0 hi0 e.on ((depsOf_mem (List.getElem?_eq_getElem (by omega))).2 ⟨e, he, hb, rfl⟩)
        exact (hlist _).2 ⟨by omega, by rw [h1 _ (by omega)]; exact hl0 _ hlt⟩
      rw [e0] at hr
      cases hr
    · obtain ⟨hun, o, ho, hdep⟩ := mem_ready.1 hi
      rw [List.getElem?_toArray] at ho
      have hio : i < ops.length := (List.getElem?_eq_some_iff.1 ho).1
      by_cases hik : i < k
      · have hi' : i ∈ Region.ready md (ops.take k).toArray L := by
          refine mem_ready.2 ⟨by rw [← h1 i hik]; exact hun, o, (hget i hik).trans ho, fun e he hb => ?_⟩
          have hlt := hlex i hik e.on ((depsOf_mem ho).2 ⟨e, he, hb, rfl⟩)
          have := ((hlist _).1 (hdep e he hb)).2
          rw [h1 _ (by omega)] at this
          simp only [Array.getD_eq_getD_getElem?, Array.getElem?_eq_getElem (show e.on < L.size by omega)] at this ⊢
          simpa using this
        have hq := h.2 i hi'
        unfold qOpIn at hq
        rw [hget i hik, ho] at hq
        simp only at hq
        have hgo : guardsIn k [o] = true := by
          have hm : o ∈ ops.take k := by
            rw [List.mem_take_iff_getElem]
            obtain ⟨h5, h6⟩ := List.getElem?_eq_some_iff.1 ho
            exact ⟨i, by omega, h6⟩
          have := List.all_eq_true.1 hg o hm
          simpa [guardsIn] using this
        have hdo : ∀ c, o.op ≠ .defer c := noDefer_at (l := ops.take k) (i := i) hd (by rw [← List.getElem?_toArray]; exact (hget i hik).trans ho)
        have hnext : ∀ a' w', C w' → wpAnyQIn F n P md (ops.take k).toArray C Q fuel (L.setIfInBounds i true) a' → wpAnyIn F n P md ops.toArray Q' (fuel + (ops.length - k)) (M.setIfInBounds i true) a' w' := by
          intro a' w' hC' h'
          have hmg : ∀ j d, (M.setIfInBounds i true).getD j d = if i = j then true else M.getD j d := fun j d => by
            simp only [Array.getD_eq_getD_getElem?, Array.getElem?_setIfInBounds]
            by_cases e : i = j
            · subst e; simp [hM, hio]
            · simp [e]
          have hlg : ∀ j d, (L.setIfInBounds i true).getD j d = if i = j then true else L.getD j d := fun j d => by
            simp only [Array.getD_eq_getD_getElem?, Array.getElem?_setIfInBounds]
            by_cases e : i = j
            · subst e; simp [hL, hik]
            · simp [e]
          refine any_prefix hd hk hg hlex hall ht fuel _ _ a' w' (by simpa using hL) (by simpa using hM) (fun j hj => ?_) (fun j hj1 hj2 => ?_) (fun j hj x hx => ?_) ?_ hC' h'
          · rw [hmg, hlg, h1 j hj]
          · rw [hmg, if_neg (by omega)]; exact h2 j hj1 hj2
          · rw [hmg] at hj ⊢
            by_cases e1 : i = x
            · rw [if_pos e1]
            · rw [if_neg e1]
              by_cases e2 : i = j
              · subst e2
                obtain ⟨e, he, hb, rfl⟩ := (depsOf_mem ho).1 hx
                exact hdep e he hb
              · rw [if_neg e2] at hj
                exact h3 j hj x hx
          · have := unlisted_set (L := L) hik (by rw [← h1 i hik]; exact hun)
            omega
        unfold wpOpIn
        rw [List.getElem?_toArray, ho]
        simp only
        rw [wanted_pre hgo]
        split
        · rename_i hw
          have hq2 := hq.2
          rw [if_pos hw] at hq2
          exact quiet_op_round hdo hC hnext hq.1 hq2
        · rename_i hw
          have hq2 := hq.2
          rw [if_neg hw] at hq2
          exact ⟨hq.1 w hC, hnext _ _ hC hq2⟩
      · exfalso
        have hmem := hall i (by omega) hio i0 hi0
        have := cloOf_listed (T := fun x => M.getD x false = true) h3 8 (depsOf md ops i) (fun x hx => by
          obtain ⟨e, he, hb, rfl⟩ := (depsOf_mem ho).1 hx
          exact hdep e he hb) i0 hmem
        have h6 := ((hlist _).1 this).2
        rw [h1 i0 hi0, hf0] at h6
        cases h6
/-- The law. k: how many operations come in whatever order. -/
theorem region_call {id : Nat} {Q : Exit → Act → World → Prop} {a : Act} {w : World} {ops : List Oper} (k : Nat) (C : World → Prop) (h0 : C w.drew) (hd : noDefer (ops.take k) = true) (hm : P.follows .mixedOrders = true) (hB : Region.lexB .any (ops.take k).toArray = true) (hT : tailB .any ops k = true)
    (h : wpQuietIn F n P (ops.take k).toArray C (fun a' => ∀ w', C w' → wpListIn F n P ops.toArray Q (ops.drop k) a' w') (ops.take k) a) : (Code.region id ops.toArray true).wpIn F n P Q a w := by
  simp only [tailB, Bool.and_eq_true, decide_eq_true_eq, List.all_eq_true, List.mem_range, List.mem_range'_1, beq_iff_eq, List.contains_iff_mem] at hT
  obtain ⟨⟨⟨⟨⟨t1, t2⟩, t3⟩, t4⟩, t5⟩, t6⟩ := hT
  simp only [Region.lexB, Bool.and_eq_true] at hB
  have hlen : (ops.take k).length = k := by simp [t1]
  have hq := wpAnyQIn_lex (F := F) (n := n) (P := P) (ops := (ops.take k).toArray) (C := C) (md := .any) hB.1 (ops.take k) 0 (Array.replicate (ops.take k).toArray.size false) a (by simp) (by simpa using hB.2) h
  rw [hlen] at hq
  refine wpIn_region_any hm ?_
  have e : ops.toArray.size = k + (ops.length - k) := by simp; omega
  have e2 : Array.replicate ops.toArray.size false = Array.replicate ops.length false := by simp
  rw [e2, e]
  have hrep : ∀ m i d, (Array.replicate m false).getD i d = if i < m then false else d := fun m i d => by
    simp only [Array.getD_eq_getD_getElem?, Array.getElem?_replicate]
    split <;> rfl
  refine any_prefix (C := C) (Q := fun a' => ∀ w', C w' → wpListIn F n P ops.toArray Q (ops.drop k) a' w') hd t1 t2 t3 (fun j hj1 hj2 i hi => t4 j ⟨hj1, by omega⟩ i hi)
    (fun a w hC hQ => any_tail (k := k) (fun t h1 h2 => t5 t ⟨h1, by omega⟩) t6 (ops.length - k) k (by omega) (Nat.le_refl _) a w (hQ w hC))
    k (Array.replicate (ops.take k).toArray.size false) _ a _ (by simp [t1]) (by simp) (fun i hi => ?_) (fun i hi1 hi2 => ?_) (fun j hj => ?_) ?_ h0 hq
  · rw [hrep, hrep, if_pos (by omega), if_pos (by simp; omega)]
  · rw [hrep, if_pos hi2]
  · rw [hrep] at hj
    split at hj <;> cases hj
  · have : ∀ i ∈ List.range k, (!(Array.replicate (ops.take k).toArray.size false).getD i true) = true := fun i hi => by
      rw [hrep, if_pos (by have := List.mem_range.1 hi; simp; omega)]; rfl
    unfold unlisted
    rw [List.countP_eq_length.2 this, List.length_range]
end
end Go.Proofs.Ytidiikmpgpnmpaa
