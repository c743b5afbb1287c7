/-
  LAW: WearMore: numbers: a block of which more is known.
-/
import Derived.Test.YtdehgplklgfcdaaGreatHJ4
namespace Go.Proofs.YtdehgplklgfcdaaGreat
open Go.RowKit Go.Proofs.Tryz


/-- Each truth of z is one of w: the lengths after j events of z are those after o j of w. -/
structure Sub (z w : Wn) (o : Nat → Nat) : Prop where
  u : z.u = w.u
  way : ∀ a x, z.Way a x → w.Way a x
  at_ : ∀ j x, j ≤ z.es.length → z.At j x → w.At (o j) x
  last : o z.es.length = w.es.length
theorem Sub.can {z w : Wn} {o : Nat → Nat} (h : Sub z w o) (hz : z.Fine) (hw : w.Fine) (hc : z.can = true) : w.can = true := by
  obtain ⟨a, x, h1⟩ := hz.ok_.can_iff.1 hc
  exact hw.ok_.can_iff.2 ⟨a, x, h.way a x h1⟩
theorem Sub.mC {z w : Wn} {o : Nat → Nat} (h : Sub z w o) (hz : z.Fine) (hw : w.Fine) (hc : z.can = true) {j : Nat} (hj : j ≤ z.es.length) (ho : o j ≤ w.es.length) : (_root_.Go.Proofs.YtdehgplklgfcdaaGreat.mC w (o j)).1 ≤ (_root_.Go.Proofs.YtdehgplklgfcdaaGreat.mC z j).1 ∧ (_root_.Go.Proofs.YtdehgplklgfcdaaGreat.mC z j).2 ≤ (_root_.Go.Proofs.YtdehgplklgfcdaaGreat.mC w (o j)).2 := by
  rw [mC_le z hj, mC_le w ho]
  obtain ⟨e1, e2⟩ := hz.ok_.ends hc j
  have b1 := (hw.ok_.B_in _ _).2 (h.at_ j _ hj e1)
  have b2 := (hw.ok_.B_in _ _).2 (h.at_ j _ hj e2)
  exact ⟨b1.1, b2.2⟩
theorem own_has {w : Wn} : ∀ t : Nat, (ownS w t = (1073741824, -1073741824)) ∨ ((∃ i : Nat, i < t ∧ possS (w.lost1 (w.l.1 + (i : Int))) = true ∧ (ownS w t).1 = w.l.1 + (i : Int) - (w.lost1 (w.l.1 + (i : Int))).2 ∨ (ownS w t).1 = 1073741824) ∧ (∃ i : Nat, i < t ∧ possS (w.lost1 (w.l.1 + (i : Int))) = true ∧ (ownS w t).2 = w.l.1 + (i : Int) - (w.lost1 (w.l.1 + (i : Int))).1 ∨ (ownS w t).2 = -1073741824))
  | 0 => .inl rfl
  | t + 1 => by
    cases hc : possS (w.lost1 (w.l.1 + (t : Int))) with
    | false =>
      rw [own_no rfl hc]
      rcases own_has (w := w) t with h | ⟨⟨i, h1⟩, j, h2⟩
      · exact .inl h
      · refine .inr ⟨⟨i, ?_⟩, j, ?_⟩
        · rcases h1 with ⟨a, b, c⟩ | h1
          · exact .inl ⟨by omega, b, c⟩
          · exact .inr h1
        · rcases h2 with ⟨a, b, c⟩ | h2
          · exact .inl ⟨by omega, b, c⟩
          · exact .inr h2
    | true =>
      rw [own_yes rfl hc]
      unfold joiS
      dsimp only
      refine .inr ?_
      rcases own_has (w := w) t with h | ⟨⟨i, h1⟩, j, h2⟩
      · rw [h]
        dsimp only
        refine ⟨?_, ?_⟩
        · rcases Int.le_total 1073741824 (w.l.1 + (t : Int) - (w.lost1 (w.l.1 + (t : Int))).2) with h | h
          · exact ⟨t, .inr (by omega)⟩
          · exact ⟨t, .inl ⟨by omega, hc, by omega⟩⟩
        · rcases Int.le_total (w.l.1 + (t : Int) - (w.lost1 (w.l.1 + (t : Int))).1) (-1073741824) with h | h
          · exact ⟨t, .inr (by omega)⟩
          · exact ⟨t, .inl ⟨by omega, hc, by omega⟩⟩
      · refine ⟨?_, ?_⟩
        · rcases Int.le_total (ownS w t).1 (w.l.1 + (t : Int) - (w.lost1 (w.l.1 + (t : Int))).2) with h | h
          · refine ⟨i, ?_⟩
            rw [Int.min_eq_left h]
            rcases h1 with ⟨a, b, c⟩ | h1
            · exact .inl ⟨by omega, b, c⟩
            · exact .inr h1
          · exact ⟨t, .inl ⟨by omega, hc, Int.min_eq_right h⟩⟩
        · rcases Int.le_total (w.l.1 + (t : Int) - (w.lost1 (w.l.1 + (t : Int))).1) (ownS w t).2 with h | h
          · refine ⟨j, ?_⟩
            rw [Int.max_eq_left h]
            rcases h2 with ⟨a, b, c⟩ | h2
            · exact .inl ⟨by omega, b, c⟩
            · exact .inr h2
          · exact ⟨t, .inl ⟨by omega, hc, Int.max_eq_right h⟩⟩
theorem lost_end {w : Wn} (h : w.Fine) (hc : w.can = true) : (∃ a z, w.Way a z ∧ w.lost.1 = a - z) ∧ ∃ a z, w.Way a z ∧ w.lost.2 = a - z := by
  obtain ⟨a0, z0, hw0⟩ := h.ok_.can_iff.1 hc
  have hb0 := of_decide_eq_true (show decide _ = true from lost_has h hc hw0)
  have hl := h.l
  have hz0 := (h.ok_.lost_in a0 z0).2 hw0.2
  have hbd := lost_bd h (a := a0) (by have := hw0.1; unfold inP at this; omega) (by have := hw0.1; unfold inP at this; omega) (Nat.le_refl w.es.length)
  unfold bdS at hbd
  unfold inP at hz0
  have hz0 : (FW w.u (a0, a0) w.es w.es.length).1 ≤ z0 ∧ z0 ≤ (FW w.u (a0, a0) w.es w.es.length).2 := hz0
  have ha0 := hw0.1
  unfold inP at ha0
  have key : ∀ i : Nat, i < w.nl → possS (w.lost1 (w.l.1 + (i : Int))) = true → w.Way (w.l.1 + (i : Int)) (w.lost1 (w.l.1 + (i : Int))).1 ∧ w.Way (w.l.1 + (i : Int)) (w.lost1 (w.l.1 + (i : Int))).2 := fun i hi hb => by
    have hle : (w.lost1 (w.l.1 + (i : Int))).1 ≤ (w.lost1 (w.l.1 + (i : Int))).2 := of_decide_eq_true hb
    have hin : inP (w.l.1 + (i : Int)) w.l := by unfold inP; unfold Wn.nl at hi; omega
    exact ⟨⟨hin, (h.ok_.lost_in _ _).1 ⟨Int.le_refl _, hle⟩⟩, hin, (h.ok_.lost_in _ _).1 ⟨hle, Int.le_refl _⟩⟩
  have ho := own_has (w := w) w.nl
  rw [own_all h hc] at ho
  rcases ho with ho | ⟨⟨i, h1⟩, j, h2⟩
  · rw [ho] at hb0
    dsimp only at hb0
    omega
  · refine ⟨?_, ?_⟩
    · rcases h1 with ⟨a, b, c⟩ | h1
      · exact ⟨_, _, (key i a b).2, c⟩
      · omega
    · rcases h2 with ⟨a, b, c⟩ | h2
      · exact ⟨_, _, (key j a b).1, c⟩
      · omega
theorem Sub.lost {z w : Wn} {o : Nat → Nat} (h : Sub z w o) (hz : z.Fine) (hw : w.Fine) (hc : z.can = true) : w.lost.1 ≤ z.lost.1 ∧ z.lost.2 ≤ w.lost.2 := by
  have hcw := h.can hz hw hc
  obtain ⟨⟨a, x, h1, e1⟩, b, y, h2, e2⟩ := lost_end hz hc
  have k1 := of_decide_eq_true (show decide _ = true from lost_has hw hcw (h.way a x h1))
  have k2 := of_decide_eq_true (show decide _ = true from lost_has hw hcw (h.way b y h2))
  omega
theorem until_sub {p q : Wb} (hp : p.n.Fine) (hq : q.n.Fine) (hpc : p.n.can = true) (hqc : q.n.can = true) (hu : q.uh = p.uh) (hl : (mC p.n p.es.length).1 ≤ (mC q.n q.es.length).1) {m uv ue vv ve : Int} (hm : spI (m, m) (-1000) 1000 = true)
    (e1 : inA (untilR p m) = uv) (e2 : erA (untilR p m) = ue) (e3 : inA (untilR q m) = vv) (e4 : erA (untilR q m) = ve) (h0 : ue = 0) : ve = 0 ∧ uv ≤ vv := by
  have hu1 : 0 ≤ p.uh := by have h1 : 0 ≤ p.ul ∧ p.ul ≤ p.uh ∧ p.uh ≤ 3 := hp.u; omega
  have h1 := until_is hp hpc hm e1 e2
  have h2 := until_is hq hqc hm e3 e4
  rw [hu] at h2
  rcases h1 with h1 | h1
  · rcases h2 with h2 | h2
    · refine ⟨h2.2.1, ?_⟩
      by_cases hlt : uv ≤ vv
      · exact hlt
      · exfalso
        have h3 := h2.2.2.2.2.2.1 (by omega)
        have h4 : (vv + 1) * p.uh ≤ uv * p.uh := Int.mul_le_mul_of_nonneg_right (by omega) hu1
        have h5 := h1.2.2.2.2.1
        omega
    · omega
  · omega
-- a reading more
def Wn.ins (w : Wn) (k : Nat) (x : Ev) : Wn := ⟨w.l, w.u, w.es.take k ++ [x] ++ w.es.drop k⟩
def insO (k j : Nat) : Nat := if j ≤ k then j else j - 1
theorem rch_read {u : Sp} {x : Ev} (hx : x.1 = 1) {a b : Int} (h : Rch u [x] a b) : a = b := by
  obtain ⟨z, h1, h2⟩ := h
  have h2 : z = b := h2
  subst h2
  unfold Rst at h1
  rw [if_neg (by omega), if_neg (by omega)] at h1
  exact h1.1
theorem ins_sub {w : Wn} {k : Nat} {x : Ev} (hk : k ≤ w.es.length) (hx : x.1 = 1) : Sub (w.ins k x) w (insO k) := by
  have hlen : (w.ins k x).es.length = w.es.length + 1 := by unfold Wn.ins; simp; omega
  have hT : (w.es.take k).length = k := by rw [List.length_take]; omega
  refine ⟨rfl, fun a z hw => ⟨hw.1, ?_⟩, fun j v hj hat => ?_, by rw [hlen]; unfold insO; rw [if_neg (by omega)]; omega⟩
  · have h1 : Rch w.u (w.es.take k ++ [x] ++ w.es.drop k) a z := hw.2
    obtain ⟨b, h2, h3⟩ := Rch_append.1 h1
    obtain ⟨c, h4, h5⟩ := Rch_append.1 h2
    have := rch_read hx h5
    subst this
    rw [← List.take_append_drop k w.es]
    exact Rch_append.2 ⟨c, h4, h3⟩
  · obtain ⟨⟨a, h1, h2⟩, z, h3⟩ := hat
    have h2 : Rch w.u ((w.es.take k ++ [x] ++ w.es.drop k).take j) a v := h2
    have h3 : Rch w.u ((w.es.take k ++ [x] ++ w.es.drop k).drop j) v z := h3
    unfold insO
    by_cases hjk : j ≤ k
    · rw [if_pos hjk]
      rw [List.append_assoc, List.take_append_of_le_length (by omega), List.take_take, Nat.min_eq_left hjk] at h2
      rw [List.append_assoc, List.drop_append_of_le_length (by omega)] at h3
      refine ⟨⟨a, h1, h2⟩, z, ?_⟩
      obtain ⟨b, h4, h5⟩ := Rch_append.1 h3
      obtain ⟨c, h6, h7⟩ := Rch_append.1 h5
      have := rch_read hx h6
      subst this
      have e : w.es.drop j = (w.es.take k).drop j ++ w.es.drop k := by
        conv => lhs; rw [← List.take_append_drop k w.es]
        rw [List.drop_append_of_le_length (by omega)]
      rw [e]
      exact Rch_append.2 ⟨b, h4, h7⟩
    · rw [if_neg hjk]
      have hl1 : (w.es.take k ++ [x]).length = k + 1 := by rw [List.length_append, hT]; rfl
      rw [List.take_append, List.take_of_length_le (by omega), hl1] at h2
      rw [List.drop_append, List.drop_of_length_le (by omega), List.nil_append, hl1, List.drop_drop] at h3
      have e1 : w.es.take (j - 1) = w.es.take k ++ (w.es.drop k).take (j - (k + 1)) := by
        conv => lhs; rw [← List.take_append_drop k w.es]
        rw [List.take_append, List.take_of_length_le (by rw [hT]; omega), hT, show j - 1 - k = j - (k + 1) by omega]
      refine ⟨⟨a, h1, ?_⟩, z, by rwa [show k + (j - (k + 1)) = j - 1 by omega] at h3⟩
      rw [e1]
      obtain ⟨b, h4, h5⟩ := Rch_append.1 h2
      obtain ⟨c, h6, h7⟩ := Rch_append.1 h4
      have := rch_read hx h7
      subst this
      exact Rch_append.2 ⟨c, h6, h5⟩
-- narrower readings
/-- A reading, narrower by one at an end. -/
def naE (c : Int) (e : Ev) : Ev := if e.1 = 1 then (if c % 2 = 0 then (e.1, e.2.1, min e.2.2.2 (e.2.2.1 + 1), e.2.2.2) else (e.1, e.2.1, e.2.2.1, max e.2.2.1 (e.2.2.2 - 1))) else e
theorem naE_kind (c : Int) (e : Ev) : (naE c e).1 = e.1 := by
  unfold naE
  split
  · split <;> rfl
  · rfl
theorem naE_rst {u : Sp} {c : Int} {e : Ev} (hv : vEv e = true) {x y : Int} (h : Rst u (naE c e) x y) : Rst u e x y := by
  by_cases h1 : e.1 = 1
  · have hr := read_bd hv (by omega) (by omega)
    unfold Rst at h ⊢
    rw [naE_kind, if_neg (by omega), if_neg (by omega)] at h
    rw [if_neg (by omega), if_neg (by omega)]
    refine ⟨h.1, ?_⟩
    have h2 := h.2
    unfold naE inP at h2
    rw [if_pos h1] at h2
    unfold inP
    split at h2 <;> dsimp only at h2 <;> omega
  · unfold naE at h
    rw [if_neg h1] at h
    exact h
def naT (es : List Ev) (c : Int) (j : Nat) : List Ev := (List.range es.length).map fun i => if i < j then naE (c + (i : Int)) (elE es i) else elE es i
@[simp] theorem naT_len (es : List Ev) (c : Int) (j : Nat) : (naT es c j).length = es.length := by unfold naT; rw [List.length_map, List.length_range]
theorem naT_get (es : List Ev) (c : Int) (j i : Nat) (h : i < (naT es c j).length) : (naT es c j)[i] = if i < j then naE (c + (i : Int)) (elE es i) else elE es i := by simp [naT]
theorem naT_zero (es : List Ev) (c : Int) : naT es c 0 = es := by
  apply List.ext_getElem
  · simp
  · intro i h1 h2
    rw [naT_get, if_neg (Nat.not_lt_zero i), elE_at h2]
theorem naT_at {es : List Ev} {c : Int} {j i : Nat} (h : i < es.length) : elE (naT es c j) i = if i < j then naE (c + (i : Int)) (elE es i) else elE es i := by
  rw [elE_at (by simpa using h), naT_get]
theorem naT_set {es : List Ev} {c : Int} {j : Nat} : naT es c (j + 1) = (naT es c j).set j (naE (c + (j : Int)) (elE es j)) := by
  apply List.ext_getElem
  · simp
  · intro i h1 h2
    rw [List.getElem_set, naT_get, naT_get]
    by_cases e : j = i
    · subst e
      rw [if_pos (Nat.lt_succ_self _), if_pos rfl]
    · rw [if_neg e]
      by_cases h3 : i < j
      · rw [if_pos h3, if_pos (by omega)]
      · rw [if_neg h3, if_neg (by omega)]
def Wn.na (w : Wn) (c : Int) : Wn := ⟨w.l, w.u, naT w.es c w.es.length⟩
theorem rch_mono {u : Sp} {F : Nat → Ev → Ev} (hF : ∀ i e, vEv e = true → ∀ x y, Rst u (F i e) x y → Rst u e x y) : ∀ {es es' : List Ev}, (∀ e ∈ es, vEv e = true) → es'.length = es.length → (∀ i, i < es.length → ∃ k, elE es' i = F k (elE es i)) → ∀ {a b : Int}, Rch u es' a b → Rch u es a b
  | [], [], _, _, _, _, _, h => h
  | [], _ :: _, _, hl, _, _, _, _ => by simp at hl
  | _ :: _, [], _, hl, _, _, _, _ => by simp at hl
  | e :: es, e' :: es', hv, hl, he, a, b, h => by
    obtain ⟨z, h1, h2⟩ := h
    obtain ⟨k, hk⟩ := he 0 (by simp)
    have hk : e' = F k e := hk
    subst hk
    refine ⟨z, hF k e (hv _ List.mem_cons_self) _ _ h1, rch_mono hF (fun x hx => hv x (List.mem_cons_of_mem _ hx)) (by simpa using hl) (fun i hi => ?_) h2⟩
    obtain ⟨k, hk⟩ := he (i + 1) (by simp; omega)
    exact ⟨k, hk⟩
theorem na_sub {w : Wn} (hv : ∀ e ∈ w.es, vEv e = true) (c : Int) : Sub (w.na c) w id := by
  have hlen : (w.na c).es.length = w.es.length := naT_len _ _ _
  have hat : ∀ i, i < w.es.length → elE (w.na c).es i = naE (c + (i : Int)) (elE w.es i) := fun i hi => by
    show elE (naT w.es c w.es.length) i = _
    rw [naT_at hi, if_pos hi]
  have hF : ∀ (i : Nat) (e : Ev), vEv e = true → ∀ x y, Rst w.u (naE (c + (i : Int)) e) x y → Rst w.u e x y := fun i e he x y h => naE_rst he h
  refine ⟨rfl, fun a z hw => ⟨hw.1, ?_⟩, fun j v hj hat2 => ?_, hlen⟩
  · exact rch_mono (F := fun i e => naE (c + (i : Int)) e) hF hv hlen (fun i hi => ⟨i, hat i hi⟩) hw.2
  · obtain ⟨⟨a, h1, h2⟩, z, h3⟩ := hat2
    have hj : j ≤ w.es.length := by rw [← hlen]; exact hj
    show w.At j v
    refine ⟨⟨a, h1, rch_mono (F := fun i e => naE (c + (i : Int)) e) hF (fun e he => hv e (List.mem_of_mem_take he)) (by rw [List.length_take, List.length_take, hlen]) (fun i hi => ⟨i, ?_⟩) h2⟩, z, rch_mono (F := fun i e => naE (c + (i : Int)) e) hF (fun e he => hv e (List.mem_of_mem_drop he)) (by rw [List.length_drop, List.length_drop, hlen]) (fun i hi => ⟨j + i, ?_⟩) h3⟩
    · rw [List.length_take] at hi
      have e1 : ∀ l : List Ev, elE (l.take j) i = elE l i := fun l => by unfold elE; rw [List.getElem?_take_of_lt (by omega)]
      rw [e1]
      show _ = naE _ (elE (w.es.take j) i)
      rw [e1, hat i (by omega)]
    · rw [List.length_drop] at hi
      have e1 : ∀ l : List Ev, elE (l.drop j) i = elE l (j + i) := fun l => by unfold elE; rw [List.getElem?_drop]
      rw [e1]
      show _ = naE _ (elE (w.es.drop j) i)
      rw [e1, hat (j + i) (by omega)]
end Go.Proofs.YtdehgplklgfcdaaGreat
