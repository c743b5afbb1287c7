/-
  ENGINE, eighth part: the law of a region that draws its order, its step and its whole.
-/
import Derived.Test.YtmiobcnccbfknaaX7
namespace Go.Proofs.Ytmiobcnccbfknaa
open Go.RowKit

theorem look_all {f : Nat → Option Value} : ∀ {l : List (Nat × Value)}, (∀ p ∈ l, f p.1 = some p.2) → ∀ {t : Nat}, (∃ p ∈ l, p.1 = t) → look l t = f t
  | [], _, _, h => by obtain ⟨p, hp, _⟩ := h; cases hp
  | (s, v) :: l, hf, t, h => by
    show (bif s == t then some v else look l t) = f t
    by_cases e : s = t
    · subst e
      simp
      exact (hf (s, v) List.mem_cons_self).symm
    · have h1 : (s == t) = false := by simpa using e
      rw [h1]
      obtain ⟨p, hp, h2⟩ := h
      rcases List.mem_cons.1 hp with rfl | hp
      · exact (e h2).elim
      · exact look_all (fun p hp => hf p (List.mem_cons_of_mem _ hp)) ⟨p, hp, h2⟩
theorem last_is {l : List Nat} (hs : l.Pairwise (· < ·)) {i : Nat} (hi : i ∈ l) (hl : ∀ j ∈ l, j ≤ i) : l.getLast? = some i := by
  induction l with
  | nil => cases hi
  | cons a l ih =>
    rw [List.pairwise_cons] at hs
    cases l with
    | nil =>
      have : i = a := by simpa using hi
      rw [this]
      rfl
    | cons b l =>
      rw [List.getLast?_cons_cons]
      refine ih hs.2 ?_ (fun j hj => hl j (List.mem_cons_of_mem _ hj))
      rcases List.mem_cons.1 hi with rfl | h
      · have h1 := hs.1 b List.mem_cons_self
        have h2 := hl b (List.mem_cons_of_mem _ List.mem_cons_self)
        omega
      · exact h
theorem pairwise_map_ne {f : Nat → Nat} : ∀ {l : List Nat}, (l.map f).Pairwise (· ≠ ·) → ∀ {x y : Nat}, x ∈ l → y ∈ l → x ≠ y → f x ≠ f y
  | [], _, x, _, hx, _, _ => by cases hx
  | a :: l, h, x, y, hx, hy, hn => by
    rw [List.map_cons, List.pairwise_cons] at h
    rcases List.mem_cons.1 hx with e1 | h1 <;> rcases List.mem_cons.1 hy with e2 | h2
    · exact (hn (e1.trans e2.symm)).elim
    · subst e1
      exact h.1 _ (List.mem_map_of_mem h2)
    · subst e2
      exact (h.1 _ (List.mem_map_of_mem h1)).symm
    · exact pairwise_map_ne h.2 h1 h2 hn
section
variable {R : Rg} {X : Cx}
theorem Dn_set {L : Array Bool} {i : Nat} (hi : i < L.size) (j : Nat) : Dn (L.setIfInBounds i true) j = (j == i || Dn L j) := by
  unfold Dn
  by_cases e : j = i
  · subst e
    simp [hi]
  · rw [getD_set_ne false (Ne.symm e)]
    have : (j == i) = false := by simpa using e
    rw [this, Bool.false_or]
theorem hwr_sorted (id : Nat) (S : Nat → Bool) : ((R.hwr id).filter S).Pairwise (· < ·) := (List.pairwise_lt_range.filter _).filter _

theorem sAt_step (h : R.ok X.N = true) {L : Array Bool} (hL : L.size = R.n) (hS : R.Down (Dn L)) {i : Nat} (hi : i < R.n) (hsi : Dn L i = false) {β β' : Nat → Nat} (hb : ∀ id, id ∉ (R.p i).news → β' id = β id) (t : Nat) :
    R.sAt (Dn (L.setIfInBounds i true)) t β' = if R.dst i = some t then some (R.v i β') else R.sAt (Dn L) t β := by
  have hset := Dn_set (i := i) (by rw [hL]; exact hi : i < L.size)
  by_cases hd : R.dst i = some t
  · rw [if_pos hd]
    unfold Rg.sAt
    rw [((R.fit h hi).dst t hd).1]
    dsimp only
    rw [hset]
    simp
  · rw [if_neg hd]
    unfold Rg.sAt
    cases hw : R.wr t with
    | none => rfl
    | some j =>
      obtain ⟨hj, hdj⟩ := wr_is hw
      have hne : j ≠ i := fun e => hd (e ▸ hdj)
      have h1 : (j == i) = false := by simpa using hne
      dsimp only
      rw [hset, h1, Bool.false_or]
      split
      · rename_i hsj
        rw [v_same h hS hi hsi hb hj hsj]
      · rfl
theorem hAt_step (h : R.ok X.N = true) {L : Array Bool} (hL : L.size = R.n) (hS : R.Down (Dn L)) {i : Nat} (hi : i < R.n) (hsi : Dn L i = false) {β β' : Nat → Nat} (hb : ∀ id, id ∉ (R.p i).news → β' id = β id) (id : Nat) :
    R.hAt (Dn (L.setIfInBounds i true)) id β' = if R.has i id = true then R.cont i id β' else R.hAt (Dn L) id β := by
  have hset := Dn_set (i := i) (by rw [hL]; exact hi : i < L.size)
  by_cases hd : R.has i id = true
  · rw [if_pos hd]
    have hl : ((R.hwr id).filter (Dn (L.setIfInBounds i true))).getLast? = some i := by
      refine last_is (hwr_sorted id _) (List.mem_filter.2 ⟨Rg.hwr_has.2 ⟨hi, hd⟩, by rw [hset]; simp⟩) fun j hj => ?_
      obtain ⟨hj1, hj2⟩ := List.mem_filter.1 hj
      by_cases e : j = i
      · omega
      · have h1 : (j == i) = false := by simpa using e
        rw [hset, h1, Bool.false_or] at hj2
        have no : i ∉ R.an j := fun hij => by
          have := R.anc' h hS (Rg.hwr_lt hj1) hj2 i hij
          rw [hsi] at this
          cases this
        have hq : ∃ q ∈ (R.p i).upd, q.1 = id := by
          unfold Rg.has at hd
          simpa [List.any_eq_true] using hd
        obtain ⟨q, hq, rfl⟩ := hq
        rcases (R.fit h hi).upd q hq with hn | hr
        · rcases ((R.fit h hi).news _ hn).2.2.1 j hj1 with e' | e'
          · exact (e e').elim
          · exact (no e').elim
        · rcases ((R.fit h hi).reads _ hr).2 j hj1 with e' | e' | e'
          · have := ((R.fit h hi).an j e').1
            omega
          · exact (e e').elim
          · exact (no e').elim
    unfold Rg.hAt
    rw [hl]
  · rw [if_neg hd, ← hAt_beta h hS hi hsi hb id]
    have e : (R.hwr id).filter (Dn (L.setIfInBounds i true)) = (R.hwr id).filter (Dn L) := by
      apply List.filter_congr
      intro j hj
      have hne : j ≠ i := fun e => hd (e ▸ (Rg.hwr_has.1 hj).2)
      have h1 : (j == i) = false := by simpa using hne
      rw [hset, h1, Bool.false_or]
    unfold Rg.hAt
    rw [e]

theorem rg_step (h : R.ok X.N = true) {k : List KI} {L : Array Bool} {a : Act} {w : World} {β : Nat → Nat} (hL : L.size = R.n) (hS : R.Down (Dn L)) (inv : R.Inv X L a w β) {i : Nat} (hi : i < R.n) (hsi : Dn L i = false) (hd : ∀ d ∈ R.deps i, Dn L d = true) (T : R.Tri X k i)
    {K : Act → World → Prop} (hK : ∀ a' w' β', R.Inv X (L.setIfInBounds i true) a' w' β' → K a' w') : wpOpIn X.F X.n X.P R.ops (wpK X k) i K a w := by
  have ha := R.anc h hS i hi hd
  have fit := R.fit h hi
  obtain ⟨extra, hex⟩ : ∃ e, e = (List.range X.N).filterMap fun t => (R.sAt (Dn L) t β).map fun v => (t, v) := ⟨_, rfl⟩
  have hall : ∀ p ∈ R.ns i β ++ extra, R.sAt (Dn L) p.1 β = some p.2 := by
    intro p hp
    rcases List.mem_append.1 hp with hp | hp
    · obtain ⟨t, ht, rfl⟩ := List.mem_map.1 hp
      obtain ⟨h1, h2⟩ := sAt_in h hS hi hsi ha ht β
      obtain ⟨v, hv⟩ := Option.isSome_iff_exists.1 h2
      dsimp only
      rw [h1, hv]
      rfl
    · rw [hex] at hp
      obtain ⟨t, _, ht⟩ := List.mem_filterMap.1 hp
      cases hs : R.sAt (Dn L) t β with
      | none => rw [hs] at ht; cases ht
      | some v =>
        rw [hs] at ht
        injection ht with ht
        subst ht
        exact hs
  have hlook : ∀ t v, R.sAt (Dn L) t β = some v → look (R.ns i β ++ extra) t = some v := by
    intro t v hv
    have hlt : t < X.N := by
      have := (Array.getElem?_eq_some_iff.1 (inv.sl t v hv)).1
      rw [inv.sz] at this
      exact this
    rw [look_all (f := fun t => R.sAt (Dn L) t β) hall ⟨(t, v), List.mem_append_right _ (by rw [hex]; exact List.mem_filterMap.2 ⟨t, List.mem_range.2 hlt, by rw [hv]; rfl⟩), rfl⟩]
    exact hv
  have hread : ∀ id ∈ (R.p i).reads, ∃ o, R.hAt (Dn L) id β = some o ∧ (R.hAt (R.inA i) id β).getD default = o := by
    intro id hid
    have h1 : (R.hAt (Dn L) id β).isSome = true := hAt_some.2 ((fit.reads id hid).1.imp_right fun ⟨j, hj, hA⟩ => ⟨j, hj, ha j hA⟩)
    obtain ⟨o, ho⟩ := Option.isSome_iff_exists.1 h1
    refine ⟨o, ho, ?_⟩
    rw [← hAt_in h hS hi hsi ha hid β, ho]
    rfl
  have hm : ∀ p ∈ R.nh i β, p.1 < X.B.heap.size → X.M p.1 := by
    intro p hp
    obtain ⟨id, hid, rfl⟩ := List.mem_map.1 hp
    obtain ⟨o, ho, _⟩ := hread id hid
    exact (inv.hp id o ho).2
  have g : G (Xw X k w (R.nh i β)) ⟨R.ns i β ++ extra, R.nh i β⟩ a w := by
    refine ⟨inv.df, inv.sz, fun t v ht => ?_, fun p hp => ⟨?_, fun _ => ⟨p.2, hp⟩⟩, ?_, fun p hp => ?_, Kept.refl _ _, ⟨inv.ej, fun p hp => ?_, inv.en⟩⟩
    · refine inv.sl t v ?_
      cases hs : R.sAt (Dn L) t β with
      | some u =>
        have h1 := hlook t u hs
        have h2 : some u = some v := h1.symm.trans ht
        exact h2
      | none =>
        exfalso
        have : ∃ p ∈ R.ns i β ++ extra, p.1 = t := by
          have key : ∀ l : List (Nat × Value), look l t = some v → ∃ p ∈ l, p.1 = t := by
            intro l
            induction l with
            | nil => intro h; cases h
            | cons p l ih =>
              intro h
              have h : (bif p.1 == t then some p.2 else look l t) = some v := h
              by_cases e : p.1 = t
              · exact ⟨p, List.mem_cons_self, e⟩
              · have h1 : (p.1 == t) = false := by simpa using e
                rw [h1] at h
                obtain ⟨q, hq, h2⟩ := ih h
                exact ⟨q, List.mem_cons_of_mem _ hq, h2⟩
          exact key _ ht
        obtain ⟨p, hp, rfl⟩ := this
        have := hall p hp
        rw [hs] at this
        cases this
    · obtain ⟨id, hid, rfl⟩ := List.mem_map.1 hp
      obtain ⟨o, ho, h2⟩ := hread id hid
      dsimp only
      rw [h2]
      exact (inv.hp id o ho).1
    · show ((R.p i).reads.map _).Pairwise _
      rw [List.pairwise_map]
      refine fit.dis.imp_of_mem fun {x y} hx hy hn => ?_
      obtain ⟨o, ho, _⟩ := hread x hx
      obtain ⟨o', ho', _⟩ := hread y hy
      exact inv.inj x y (by rw [ho]; rfl) (by rw [ho']; rfl) hn
    · obtain ⟨id, hid, rfl⟩ := List.mem_map.1 hp
      obtain ⟨o, ho, h2⟩ := hread id hid
      dsimp only
      rw [h2]
      exact inv.nd id o ho
    · obtain ⟨id, hid, rfl⟩ := List.mem_map.1 hp
      obtain ⟨o, ho, h2⟩ := hread id hid
      exact inv.eh id (by rw [ho]; rfl)
  have run := T β w K extra inv.kp hm (fun β' hb hfr hpw a' w' g' => hK a' w' β' ?_) a w g
  · have run : wpOpsIn X.F X.n X.P R.ops (Exit.then K (wpK X k)) [i] a w := run
    rw [wpOpsIn_cons] at run
    exact wpOpIn_Q (fun _ _ _ h => h) (fun _ _ h => h) run
  · have hhas : ∀ id, id ∈ (R.p i).news → R.has i id = true := fun id hid => (fit.news id hid).2.1
    have hold : ∀ id o, R.hAt (Dn L) id β = some o → R.nm β id < w.heap.size := fun id o ho => (Array.getElem?_eq_some_iff.1 (inv.hp id o ho).1).1
    have hpres : ∀ id, (R.hAt (Dn (L.setIfInBounds i true)) id β').isSome = true → id ∉ (R.p i).news → (R.hAt (Dn L) id β).isSome = true := by
      intro id hs hn
      rw [hAt_step h hL hS hi hsi hb id] at hs
      split at hs
      · rename_i hh
        have hq : ∃ q ∈ (R.p i).upd, q.1 = id := by
          unfold Rg.has at hh
          simpa [List.any_eq_true] using hh
        obtain ⟨q, hq, rfl⟩ := hq
        rcases fit.upd q hq with h1 | h1
        · exact (hn h1).elim
        · obtain ⟨o, ho, _⟩ := hread _ h1
          rw [ho]
          rfl
      · exact hs
    refine ⟨g'.df, g'.ex.J, g'.ex.n0, fun id hs => ?_, fun id o ho => ?_, g'.sz, fun t v hv => ?_, fun id o ho => ?_, fun id id' h1 h2 hne => ?_, inv.kp.trans g'.kp fun b hb' ⟨o, ho⟩ => hm _ ho hb'⟩
    · by_cases n1 : id ∈ (R.p i).news
      · have h4 := hfr id n1
        exact ⟨Nat.le_trans inv.en h4, fun hD => absurd (X.E.lt _ _ inv.ej hD) (Nat.not_lt.2 h4)⟩
      · rw [nm_same hb n1]
        exact inv.eh id (hpres id hs n1)
    · rw [hAt_step h hL hS hi hsi hb id] at ho
      split at ho
      · unfold Rg.cont at ho
        cases hf : (R.p i).upd.find? (fun q => q.1 == id) with
        | none => rw [hf] at ho; cases ho
        | some q =>
          rw [hf] at ho
          have ho : q.2 ((R.p i).names.map (R.nm β')) = o := by injection ho
          have h3 := g'.nd _ (List.mem_append_left _ (List.mem_map.2 ⟨q, List.mem_of_find?_eq_some hf, rfl⟩))
          rw [← ho]
          exact h3
      · exact inv.nd id o ho
    · rw [sAt_step h hL hS hi hsi hb t] at hv
      refine g'.sl t v ?_
      split at hv
      · rename_i hdt
        rw [hdt]
        show (bif t == t then some (R.v i β') else look (R.ns i β ++ extra) t) = some v
        rw [hv]
        simp
      · rename_i hdt
        have h3 := hlook t v hv
        cases hdi : R.dst i with
        | none => exact h3
        | some d =>
          have hne : (d == t) = false := by
            have : d ≠ t := fun e => hdt (by rw [hdi, e])
            simpa using this
          show (bif d == t then some (R.v i β') else look (R.ns i β ++ extra) t) = some v
          rw [hne]
          exact h3
    · rw [hAt_step h hL hS hi hsi hb id] at ho
      split at ho
      · rename_i hh
        have hmem : (R.nm β' id, o) ∈ R.oh i β' := by
          unfold Rg.cont at ho
          cases hf : (R.p i).upd.find? (fun q => q.1 == id) with
          | none => rw [hf] at ho; cases ho
          | some q =>
            rw [hf] at ho
            have ho : q.2 ((R.p i).names.map (R.nm β')) = o := by injection ho
            have hq : q.1 = id := by simpa using List.find?_some hf
            refine List.mem_append_left _ (List.mem_map.2 ⟨q, List.mem_of_find?_eq_some hf, ?_⟩)
            rw [hq, ho]
        have h3 := g'.hp _ hmem
        refine ⟨h3.1, fun hlt => ?_⟩
        obtain ⟨o2, ho2⟩ := h3.2 (Nat.lt_of_lt_of_le hlt inv.kp.size)
        exact hm _ ho2 hlt
      · rename_i hh
        have hn : id ∉ (R.p i).news := fun hn => hh (hhas id hn)
        have h3 := inv.hp id o ho
        rw [nm_same hb hn]
        refine ⟨?_, h3.2⟩
        by_cases hr : id ∈ (R.p i).reads
        · have hmem : (R.nm β' id, o) ∈ R.oh i β' := by
            refine List.mem_append_right _ (List.mem_map.2 ⟨id, List.mem_filter.2 ⟨hr, by simpa using hh⟩, ?_⟩)
            have h4 : R.hAt (R.inA i) id β' = R.hAt (R.inA i) id β := by
              unfold Rg.hAt
              cases hl : ((R.hwr id).filter (R.inA i)).getLast? with
              | none => rfl
              | some j =>
                have hmm := List.mem_filter.1 (List.mem_of_getLast? hl)
                have hjA : j ∈ R.an i := by simpa [Rg.inA] using hmm.2
                exact cont_same h hS hi hsi hb (Rg.hwr_lt hmm.1) (ha j hjA) id
            rw [h4, ← hAt_in h hS hi hsi ha hr β, ho]
            rfl
          have h5 := (g'.hp _ hmem).1
          rw [nm_same hb hn] at h5
          exact h5
        · refine (g'.kp.block _ (hold id o ho) fun ⟨o2, ho2⟩ => ?_).trans h3.1
          obtain ⟨id2, hid2, he⟩ := List.mem_map.1 ho2
          injection he with he1 he2
          obtain ⟨o3, ho3, _⟩ := hread id2 hid2
          exact inv.inj id2 id (by rw [ho3]; rfl) (by rw [ho]; rfl) (fun e => hr (e ▸ hid2)) he1
    · by_cases n1 : id ∈ (R.p i).news
      · by_cases n2 : id' ∈ (R.p i).news
        · exact pairwise_map_ne hpw n1 n2 hne
        · obtain ⟨o, ho⟩ := Option.isSome_iff_exists.1 (hpres id' h2 n2)
          have h3 := hold id' o ho
          have h4 := hfr id n1
          rw [nm_same hb n2]
          omega
      · obtain ⟨o, ho⟩ := Option.isSome_iff_exists.1 (hpres id h1 n1)
        have h3 := hold id o ho
        rw [nm_same hb n1]
        by_cases n2 : id' ∈ (R.p i).news
        · have h4 := hfr id' n2
          omega
        · rw [nm_same hb n2]
          exact inv.inj id id' (hpres id h1 n1) (hpres id' h2 n2) hne
theorem count_set {L : Array Bool} {i : Nat} (hi : i < L.size) (h : L.getD i true = false) : (L.setIfInBounds i true).toList.count true = L.toList.count true + 1 := by
  have h1 : L.toList[i]? = some false := by
    rw [Array.getElem?_toList]
    simp [Array.getD_eq_getD_getElem?, hi] at h
    simp [hi, h]
  have key : ∀ (l : List Bool) (i : Nat), l[i]? = some false → (l.set i true).count true = l.count true + 1 := by
    intro l
    induction l with
    | nil => intro i h; cases h
    | cons b l ih =>
      intro i h
      cases i with
      | zero =>
        have : b = false := by simpa using h
        subst this
        simp
      | succ i =>
        have := ih i (by simpa using h)
        rw [List.set_cons_succ, List.count_cons, List.count_cons, this]
        omega
  rw [Array.toList_setIfInBounds]
  exact key _ _ h1
theorem deps_of {i : Nat} {o : Oper} (ho : R.ops[i]? = some o) {d : Nat} (hd : d ∈ R.deps i) : ∃ e ∈ o.after, Region.binds .any e = true ∧ e.on = d := by
  unfold Rg.deps at hd
  rw [ho] at hd
  obtain ⟨e, he, rfl⟩ := List.mem_map.1 hd
  have := List.mem_filter.1 he
  exact ⟨e, Array.mem_toList_iff.1 this.1, this.2, rfl⟩
theorem rg_any (h : R.ok X.N = true) {k : List KI} (T : ∀ i, i < R.n → R.Tri X k i) (hend : ∀ (L : Array Bool) a w β, (∀ i, i < R.n → Dn L i = true) → R.Inv X L a w β → wpK X k .normal a w) :
    ∀ (fuel : Nat) (L : Array Bool) (a : Act) (w : World) (β : Nat → Nat), L.size = R.n → L.toList.count true + fuel = R.n → R.Down (Dn L) → R.Inv X L a w β → wpAnyIn X.F X.n X.P .any R.ops (wpK X k) fuel L a w := by
  have hall : ∀ (L : Array Bool), L.size = R.n → R.Down (Dn L) → Region.ready .any R.ops L = [] → ∀ i, i < R.n → Dn L i = true := by
    intro L hL hS hr i
    induction i using Nat.strongRecOn with
    | _ i ih =>
      intro hi
      cases hs : Dn L i with
      | true => rfl
      | false =>
        exfalso
        have hio : i < R.ops.size := hi
        have hm : i ∈ Region.ready .any R.ops L := by
          rw [mem_ready]
          have hlt : i < L.size := by rw [hL]; exact hi
          refine ⟨by unfold Dn at hs; simp [Array.getD_eq_getD_getElem?, hlt] at hs ⊢; exact hs, R.ops[i], by simp [hio], fun e he hb => ?_⟩
          have hd : e.on ∈ R.deps i := by
            unfold Rg.deps
            rw [Array.getElem?_eq_getElem hio]
            exact List.mem_map.2 ⟨e, List.mem_filter.2 ⟨Array.mem_toList_iff.2 he, hb⟩, rfl⟩
          have hlt := (R.fit h hi).deps _ hd
          exact ih _ hlt (Nat.lt_trans hlt hi)
        rw [hr] at hm
        cases hm
  intro fuel
  induction fuel with
  | zero =>
    intro L a w β hL hc hS inv
    have hc : L.toList.count true = L.toList.length := by rw [Array.length_toList, hL]; simpa using hc
    have hrr : Region.ready .any R.ops L = [] := by
      rw [List.eq_nil_iff_forall_not_mem]
      intro i hm
      have hm := mem_ready.1 hm
      obtain ⟨h0, o, ho, _⟩ := hm
      have hi : i < L.size := by rw [hL]; exact (Array.getElem?_eq_some_iff.1 ho).1
      have := List.count_eq_length.1 hc (L[i]) (Array.mem_toList_iff.2 (Array.getElem_mem hi))
      simp [Array.getD_eq_getD_getElem?, hi] at h0
      rw [h0] at this
      cases this
    exact ⟨hrr, hend L a w β (hall L hL hS hrr) inv⟩
  | succ fuel ih =>
    intro L a w β hL hc hS inv
    refine ⟨fun hr => hend L a w β (hall L hL hS hr) inv, fun i hm => ?_⟩
    obtain ⟨h0, o, ho, hal⟩ := mem_ready.1 hm
    have hi : i < R.n := (Array.getElem?_eq_some_iff.1 ho).1
    have hiL : i < L.size := by rw [hL]; exact hi
    have hsi : Dn L i = false := by
      unfold Dn
      simp [Array.getD_eq_getD_getElem?, hiL] at h0 ⊢
      exact h0
    have hset := Dn_set hiL
    have hd : ∀ d ∈ R.deps i, Dn L d = true := fun d hd => by
      obtain ⟨e, he, hb, rfl⟩ := deps_of ho hd
      exact hal e he hb
    refine rg_step h hL hS inv hi hsi hd (T i hi) fun a' w' β' inv' => ih _ a' w' β' (by simpa using hL) (by rw [count_set hiL h0]; omega) (fun j hj hs d hdj => ?_) inv'
    rw [hset] at hs ⊢
    simp only [Bool.or_eq_true, beq_iff_eq] at hs ⊢
    rcases hs with rfl | hs
    · exact .inr (hd d hdj)
    · exact .inr (hS j hj hs d hdj)

def isDraw (k : List KI) : Option (Array Oper × List KI) :=
  match k with
  | .code (.region _ ops true) :: k => some (ops, k)
  | _ => none
/-- What there is in the end: these slots, these blocks. -/
def Rg.fin (R : Rg) (β : Nat → Nat) (ks hk : List Nat) : St := ⟨ks.filterMap fun t => (R.sAt (fun _ => true) t β).map fun v => (t, v), hk.filterMap fun id => (R.hAt (fun _ => true) id β).map fun o => (R.nm β id, o)⟩
theorem sAt_all {L : Array Bool} (hl : ∀ i, i < R.n → Dn L i = true) (t : Nat) (β : Nat → Nat) : R.sAt (fun _ => true) t β = R.sAt (Dn L) t β := by
  unfold Rg.sAt
  cases hw : R.wr t with
  | none => rfl
  | some j =>
    dsimp only
    rw [if_pos rfl, if_pos (hl j (wr_is hw).1)]
theorem hAt_all {L : Array Bool} (hl : ∀ i, i < R.n → Dn L i = true) (id : Nat) (β : Nat → Nat) : R.hAt (fun _ => true) id β = R.hAt (Dn L) id β := by
  unfold Rg.hAt
  rw [show (R.hwr id).filter (fun _ => true) = (R.hwr id).filter (Dn L) from List.filter_congr fun j hj => (hl j (Rg.hwr_lt hj)).symm]
theorem look_fm {f : Nat → Option Value} : ∀ {ks : List Nat} {t : Nat} {v : Value}, look (ks.filterMap fun t => (f t).map fun v => (t, v)) t = some v → f t = some v
  | [], t, v, h => by cases h
  | s :: ks, t, v, h => by
    rw [List.filterMap_cons] at h
    cases hs : f s with
    | none =>
      rw [hs] at h
      exact look_fm (ks := ks) h
    | some u =>
      rw [hs] at h
      have h : (bif s == t then some u else look _ t) = some v := h
      by_cases e : s = t
      · subst e
        simp at h
        rw [hs, h]
      · have : (s == t) = false := by simpa using e
        rw [this] at h
        exact look_fm (ks := ks) h
theorem fm_pairwise {f : Nat → Option Obj} {g : Nat → Nat} (hinj : ∀ id id', (f id).isSome = true → (f id').isSome = true → id ≠ id' → g id ≠ g id') : ∀ {l : List Nat}, l.Pairwise (· ≠ ·) → (l.filterMap fun id => (f id).map fun o => (g id, o)).Pairwise fun p q => p.1 ≠ q.1
  | [], _ => List.Pairwise.nil
  | id :: l, hp => by
    rw [List.pairwise_cons] at hp
    rw [List.filterMap_cons]
    cases ho : f id with
    | none => exact fm_pairwise hinj hp.2
    | some o =>
      refine List.pairwise_cons.2 ⟨fun q hq => ?_, fm_pairwise hinj hp.2⟩
      obtain ⟨id2, hid2, h3⟩ := List.mem_filterMap.1 hq
      cases ho2 : f id2 with
      | none => rw [ho2] at h3; cases h3
      | some o2 =>
        rw [ho2] at h3
        injection h3 with h3
        subst h3
        exact hinj id id2 (by rw [ho]; rfl) (by rw [ho2]; rfl) (hp.1 _ hid2)
/-- A region that draws its order. -/
theorem run_draw {k k' : List KI} {ops : Array Oper} {st : St} (pl : List Stp) (A : List (List Nat)) (hm : X.P.follows .mixedOrders = true) (hk : isDraw k = some (ops, k')) (hok : Rg.ok ⟨ops, st, pl, A⟩ X.N = true) (ks hk' : List Nat) (hd : distinct hk' = true)
    (T : ∀ i, i < ops.size → Rg.Tri ⟨ops, st, pl, A⟩ X k' i) (hr : ∀ β, Run X k' (Rg.fin ⟨ops, st, pl, A⟩ β ks hk')) : Run X k st := by
  unfold isDraw at hk
  split at hk
  · rename_i id ops' k1
    injection hk with hk
    injection hk with h1 h2
    subst h1 h2
    intro a w g
    refine wpIn_region_any hm ?_
    have gd : ∀ i, Dn (Array.replicate ops'.size false) i = false := fun i => by
      unfold Dn
      rw [Array.getD_eq_getD_getElem?]
      by_cases hi : i < ops'.size
      · simp [hi]
      · simp [hi]
    have k1' : Keeps w { w with drawn := w.drawn + 1 } := (Keeps.refl w).drew
    have g1 := g.world k1'
    refine rg_any (R := ⟨ops', st, pl, A⟩) hok T (fun L a w β hl inv => ?_) _ _ _ _ (fun _ => 0) (by simp [Rg.n]) ?_ (fun j _ hj => by rw [gd] at hj; cases hj) ⟨g1.df, g1.ex.J, g1.ex.n0, fun id hs => ?_, fun id o ho => ?_, g1.sz, fun t v hv => ?_, fun id o ho => ?_, fun id id' h1 h2 hne => ?_, g1.kp⟩
    · refine hr β a w ⟨inv.df, inv.sz, fun t v ht => inv.sl t v ?_, fun p hp => ?_, ?_, fun p hp => ?_, inv.kp, ⟨inv.ej, fun p hp => ?_, inv.en⟩⟩
      · rw [← sAt_all hl]
        exact look_fm ht
      · obtain ⟨id, _, h3⟩ := List.mem_filterMap.1 hp
        cases ho : Rg.hAt ⟨ops', st, pl, A⟩ (fun _ => true) id β with
        | none => rw [ho] at h3; cases h3
        | some o =>
          rw [ho] at h3
          injection h3 with h3
          subst h3
          rw [hAt_all hl] at ho
          exact inv.hp id o ho
      · refine fm_pairwise (fun id id' h1 h2 hne => ?_) (distinct_ok hd)
        rw [hAt_all hl] at h1 h2
        exact inv.inj id id' h1 h2 hne
      · obtain ⟨id, _, h3⟩ := List.mem_filterMap.1 hp
        cases ho : Rg.hAt ⟨ops', st, pl, A⟩ (fun _ => true) id β with
        | none => rw [ho] at h3; cases h3
        | some o =>
          rw [ho] at h3
          injection h3 with h3
          subst h3
          rw [hAt_all hl] at ho
          exact inv.nd id o ho
      · obtain ⟨id, _, h3⟩ := List.mem_filterMap.1 hp
        cases ho : Rg.hAt ⟨ops', st, pl, A⟩ (fun _ => true) id β with
        | none => rw [ho] at h3; cases h3
        | some o =>
          rw [ho] at h3
          injection h3 with h3
          subst h3
          rw [hAt_all hl] at ho
          exact inv.eh id (by rw [ho]; rfl)
    · simp [Rg.n, List.count_replicate]
    · have hf : ((Rg.hwr ⟨ops', st, pl, A⟩ id).filter (Dn (Array.replicate ops'.size false))) = [] := by
        rw [List.filter_eq_nil_iff]
        intro j _
        rw [gd]
        simp
      unfold Rg.hAt at hs
      rw [hf] at hs
      have hs : ((st.hp[id]?).map (·.2)).isSome = true := hs
      unfold Rg.nm
      cases hh : st.hp[id]? with
      | none => rw [hh] at hs; cases hs
      | some p => exact g1.ex.hp p (List.mem_of_getElem? hh)
    · have hf : ((Rg.hwr ⟨ops', st, pl, A⟩ id).filter (Dn (Array.replicate ops'.size false))) = [] := by
        rw [List.filter_eq_nil_iff]
        intro j _
        rw [gd]
        simp
      unfold Rg.hAt at ho
      rw [hf] at ho
      have ho : (st.hp[id]?).map (·.2) = some o := ho
      cases hh : st.hp[id]? with
      | none => rw [hh] at ho; cases ho
      | some p =>
        rw [hh] at ho
        injection ho with ho
        subst ho
        exact g1.nd p (List.mem_of_getElem? hh)
    · refine g1.sl t v ?_
      unfold Rg.sAt at hv
      cases hw : Rg.wr ⟨ops', st, pl, A⟩ t with
      | none => rw [hw] at hv; exact hv
      | some j =>
        rw [hw] at hv
        dsimp only at hv
        rw [gd] at hv
        exact hv
    · have hf : ((Rg.hwr ⟨ops', st, pl, A⟩ id).filter (Dn (Array.replicate ops'.size false))) = [] := by
        rw [List.filter_eq_nil_iff]
        intro j _
        rw [gd]
        simp
      unfold Rg.hAt at ho
      rw [hf] at ho
      have ho : (st.hp[id]?).map (·.2) = some o := ho
      unfold Rg.nm
      cases hh : st.hp[id]? with
      | none => rw [hh] at ho; cases ho
      | some p =>
        rw [hh] at ho
        injection ho with ho
        subst ho
        exact g1.hp p (List.mem_of_getElem? hh)
    · have hf : ∀ id, ((Rg.hwr ⟨ops', st, pl, A⟩ id).filter (Dn (Array.replicate ops'.size false))) = [] := fun id => by
        rw [List.filter_eq_nil_iff]
        intro j _
        rw [gd]
        simp
      unfold Rg.hAt at h1 h2
      rw [hf] at h1 h2
      have h1 : ((st.hp[id]?).map (·.2)).isSome = true := h1
      have h2 : ((st.hp[id']?).map (·.2)).isSome = true := h2
      unfold Rg.nm
      cases hh : st.hp[id]? with
      | none => rw [hh] at h1; cases h1
      | some p =>
        cases hh' : st.hp[id']? with
        | none => rw [hh'] at h2; cases h2
        | some p' =>
          exact pairwise_ne g1.ne hh hh' hne
  · cases hk
end
end Go.Proofs.Ytmiobcnccbfknaa
