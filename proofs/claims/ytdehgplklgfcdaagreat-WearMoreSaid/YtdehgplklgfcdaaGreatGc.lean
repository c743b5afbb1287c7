/-
  WEAR: numbers. What is known of lengths, forward and back; just what can be.
  WEAR: numbers. What is valid; bounds; sets by bits; what each call tells.
  PAIR: numbers. Bounds between places that are complete: what one more bound makes of them, and what is so in each, and in some, way to lay the places.
  PAIR: a pair as numbers: its comparators, what blocks can differ by with each, and its truths.
  PAIR: what is told of all truths: hulls, in whatever order the comparators come.
  PAIR: sets of readings: the fewest that must be wrong, and the fewest that clash.
-/
namespace Go.Proofs.YtdehgplklgfcdaaGreat

abbrev Sp := Int × Int
/-- An event: its kind, uses, span. -/
abbrev Ev := Int × Int × Int × Int
def possS (k : Sp) : Bool := decide (k.1 ≤ k.2)
def cutS (a b : Sp) : Sp := (max a.1 b.1, min a.2 b.2)
def movS (k b : Sp) : Sp := bif possS k then (k.1 + b.1, k.2 + b.2) else k
def manS (n : Int) (s : Sp) : Sp := (n * s.1, n * s.2)
def negS (s : Sp) : Sp := (-s.2, -s.1)
def fwdE (u : Sp) (e : Ev) (k : Sp) : Sp := bif e.1 == 0 then movS k (negS (manS e.2.1 u)) else bif e.1 == 2 then movS k (negS e.2.2) else cutS k e.2.2
def bckE (u : Sp) (e : Ev) (k : Sp) : Sp := bif e.1 == 0 then movS k (manS e.2.1 u) else bif e.1 == 2 then movS k e.2.2 else cutS k e.2.2
/-- What is known after so many events, by those before. -/
def FW (u l : Sp) (es : List Ev) (i : Nat) : Sp := (es.take i).foldl (fun k e => fwdE u e k) l
/-- What is known at first, by all events. -/
def hdB (u : Sp) : Sp → List Ev → Sp
  | l, [] => l
  | l, e :: es => cutS l (bckE u e (hdB u (fwdE u e l) es))
def BW (u l : Sp) (es : List Ev) (i : Nat) : Sp := hdB u (FW u l es i) (es.drop i)
def elE (es : List Ev) (i : Nat) : Ev := es[i]?.getD (0, 0, 0, 0)
theorem elE_at {es : List Ev} {i : Nat} (h : i < es.length) : elE es i = es[i] := by unfold elE; rw [List.getElem?_eq_getElem h]; rfl
theorem FW_zero (u l : Sp) (es : List Ev) : FW u l es 0 = l := rfl
theorem FW_next (u l : Sp) {es : List Ev} {i : Nat} (h : i < es.length) : FW u l es (i + 1) = fwdE u (elE es i) (FW u l es i) := by
  unfold FW
  rw [elE_at h, List.take_succ_eq_append_getElem h, List.foldl_append]
  rfl
theorem BW_last (u l : Sp) (es : List Ev) : BW u l es es.length = FW u l es es.length := by
  unfold BW
  rw [List.drop_length]
  rfl
theorem BW_prev (u l : Sp) {es : List Ev} {i : Nat} (h : i < es.length) : BW u l es i = cutS (FW u l es i) (bckE u (elE es i) (BW u l es (i + 1))) := by
  unfold BW
  rw [List.drop_eq_getElem_cons h, FW_next u l h, elE_at h]
  rfl
def inP (x : Int) (k : Sp) : Prop := k.1 ≤ x ∧ x ≤ k.2
/-- A use can take off so much, a lap too; a reading is right. -/
def Rst (u : Sp) (e : Ev) (x y : Int) : Prop :=
  if e.1 = 0 then inP (x - y) (manS e.2.1 u) else if e.1 = 2 then inP (x - y) e.2.2 else x = y ∧ inP y e.2.2
def Rch (u : Sp) : List Ev → Int → Int → Prop
  | [], x, y => x = y
  | e :: es, x, y => ∃ z, Rst u e x z ∧ Rch u es z y
def vEv (e : Ev) : Bool := bif e.1 == 0 then decide (0 ≤ e.2.1 ∧ e.2.1 ≤ 20) else bif e.1 == 1 then decide (-1000 ≤ e.2.2.1 ∧ e.2.2.1 ≤ e.2.2.2 ∧ e.2.2.2 ≤ 1000) else bif e.1 == 2 then decide (0 ≤ e.2.2.1 ∧ e.2.2.1 ≤ e.2.2.2 ∧ e.2.2.2 ≤ 10) else false
theorem poss_iff {k : Sp} : possS k = true ↔ ∃ x, inP x k := by
  unfold possS inP
  rw [decide_eq_true_eq]
  exact ⟨fun h => ⟨k.1, Int.le_refl _, h⟩, fun ⟨x, h1, h2⟩ => Int.le_trans h1 h2⟩
theorem cut_in {x : Int} {a b : Sp} : inP x (cutS a b) ↔ inP x a ∧ inP x b := by
  unfold inP cutS
  dsimp only
  omega
theorem mov_in {x : Int} {k b : Sp} (hb : b.1 ≤ b.2) : inP x (movS k b) ↔ ∃ y, inP y k ∧ inP (x - y) b := by
  unfold movS
  cases h : possS k with
  | false =>
    refine ⟨fun hx => ?_, fun ⟨y, hy, _⟩ => ?_⟩
    · exact absurd (h.symm.trans (poss_iff.2 ⟨x, hx⟩)) (by simp)
    · exact absurd (h.symm.trans (poss_iff.2 ⟨y, hy⟩)) (by simp)
  | true =>
    have h' := of_decide_eq_true h
    unfold inP
    simp only [cond_true]
    refine ⟨fun hx => ⟨min k.2 (x - b.1), ?_, ?_⟩, fun ⟨y, hy, hd⟩ => ?_⟩ <;> omega
theorem man_le {n : Int} {u : Sp} (h : u.1 ≤ u.2) (hn : 0 ≤ n) : (manS n u).1 ≤ (manS n u).2 := Int.mul_le_mul_of_nonneg_left h hn
/-- What events can do. -/
structure EvOk (u : Sp) (e : Ev) : Prop where
  use : e.1 = 0 → (manS e.2.1 u).1 ≤ (manS e.2.1 u).2
  lap : e.1 = 2 → e.2.2.1 ≤ e.2.2.2
theorem evOk {u : Sp} {e : Ev} (hu : u.1 ≤ u.2) (h : vEv e = true) : EvOk u e := by
  unfold vEv at h
  refine ⟨fun e0 => ?_, fun e2 => ?_⟩
  · rw [e0] at h
    exact man_le hu (of_decide_eq_true h).1
  · rw [e2] at h
    exact (of_decide_eq_true h).2.1
theorem fwd_in {u : Sp} {e : Ev} (h : EvOk u e) {k : Sp} {y : Int} : inP y (fwdE u e k) ↔ ∃ x, inP x k ∧ Rst u e x y := by
  unfold fwdE Rst
  by_cases h0 : e.1 = 0
  · have hm := h.use h0
    rw [show (e.1 == 0) = true by simpa using h0]
    simp only [cond_true, if_pos h0]
    rw [mov_in (by unfold negS; dsimp only; omega)]
    refine exists_congr fun x => and_congr_right fun _ => ?_
    unfold inP negS
    dsimp only
    omega
  · rw [show (e.1 == 0) = false by simpa using h0]
    simp only [cond_false, if_neg h0]
    by_cases h2 : e.1 = 2
    · have hm := h.lap h2
      rw [show (e.1 == 2) = true by simpa using h2]
      simp only [cond_true, if_pos h2]
      rw [mov_in (by unfold negS; dsimp only; omega)]
      refine exists_congr fun x => and_congr_right fun _ => ?_
      unfold inP negS
      dsimp only
      omega
    · rw [show (e.1 == 2) = false by simpa using h2]
      simp only [cond_false, if_neg h2]
      rw [cut_in]
      exact ⟨fun ⟨h1, h2⟩ => ⟨y, h1, rfl, h2⟩, fun ⟨x, h1, e, h2⟩ => by cases e; exact ⟨h1, h2⟩⟩
theorem bck_in {u : Sp} {e : Ev} (h : EvOk u e) {k : Sp} {x : Int} : inP x (bckE u e k) ↔ ∃ y, inP y k ∧ Rst u e x y := by
  unfold bckE Rst
  by_cases h0 : e.1 = 0
  · have hm := h.use h0
    rw [show (e.1 == 0) = true by simpa using h0]
    simp only [cond_true, if_pos h0]
    rw [mov_in hm]
  · rw [show (e.1 == 0) = false by simpa using h0]
    simp only [cond_false, if_neg h0]
    by_cases h2 : e.1 = 2
    · have hm := h.lap h2
      rw [show (e.1 == 2) = true by simpa using h2]
      simp only [cond_true, if_pos h2]
      rw [mov_in hm]
    · rw [show (e.1 == 2) = false by simpa using h2]
      simp only [cond_false, if_neg h2]
      rw [cut_in]
      exact ⟨fun ⟨h1, h2⟩ => ⟨x, h1, rfl, h2⟩, fun ⟨y, h1, e, h2⟩ => by cases e; exact ⟨h1, h2⟩⟩
theorem hdB_in {u : Sp} : ∀ {es : List Ev} {l : Sp}, (∀ e ∈ es, EvOk u e) → ∀ {x : Int}, inP x (hdB u l es) ↔ inP x l ∧ ∃ y, Rch u es x y
  | [], l, _, x => by
    unfold hdB
    exact ⟨fun h => ⟨h, x, rfl⟩, fun h => h.1⟩
  | e :: es, l, h, x => by
    have he := h e List.mem_cons_self
    unfold hdB
    rw [cut_in, bck_in he]
    constructor
    · rintro ⟨h1, y, h2, h3⟩
      obtain ⟨_, z, hz⟩ := (hdB_in (fun e he => h e (List.mem_cons_of_mem _ he))).1 h2
      exact ⟨h1, z, y, h3, hz⟩
    · rintro ⟨h1, z, y, h3, hz⟩
      exact ⟨h1, y, (hdB_in (fun e he => h e (List.mem_cons_of_mem _ he))).2 ⟨(fwd_in he).2 ⟨x, h1, h3⟩, z, hz⟩, h3⟩
theorem Rch_append {u : Sp} : ∀ {a b : List Ev} {x y : Int}, Rch u (a ++ b) x y ↔ ∃ z, Rch u a x z ∧ Rch u b z y
  | [], b, x, y => ⟨fun h => ⟨x, rfl, h⟩, fun ⟨z, e, h⟩ => by cases e; exact h⟩
  | e :: a, b, x, y => by
    constructor
    · rintro ⟨z, h1, h2⟩
      obtain ⟨v, h3, h4⟩ := Rch_append.1 h2
      exact ⟨v, ⟨z, h1, h3⟩, h4⟩
    · rintro ⟨v, ⟨z, h1, h3⟩, h4⟩
      exact ⟨z, h1, Rch_append.2 ⟨v, h3, h4⟩⟩
theorem fold_in {u : Sp} : ∀ {es : List Ev} {l : Sp}, (∀ e ∈ es, EvOk u e) → ∀ {y : Int}, inP y (es.foldl (fun k e => fwdE u e k) l) ↔ ∃ x, inP x l ∧ Rch u es x y
  | [], l, _, y => ⟨fun h => ⟨y, h, rfl⟩, fun ⟨x, h, e⟩ => by cases e; exact h⟩
  | e :: es, l, h, y => by
    rw [List.foldl_cons, fold_in (fun e he => h e (List.mem_cons_of_mem _ he))]
    constructor
    · rintro ⟨z, h1, h2⟩
      obtain ⟨x, h3, h4⟩ := (fwd_in (h e List.mem_cons_self)).1 h1
      exact ⟨x, h3, z, h4, h2⟩
    · rintro ⟨x, h3, z, h4, h2⟩
      exact ⟨z, (fwd_in (h e List.mem_cons_self)).2 ⟨x, h3, h4⟩, h2⟩
/-- A block. -/
structure Wn where
  l : Sp
  u : Sp
  es : List Ev
def Wn.F (w : Wn) (i : Nat) : Sp := FW w.u w.l w.es i
def Wn.B (w : Wn) (i : Nat) : Sp := BW w.u w.l w.es i
def Wn.can (w : Wn) : Bool := possS (w.B 0)
structure Wn.Ok (w : Wn) : Prop where
  ev : ∀ e ∈ w.es, EvOk w.u e
/-- x is the length after i events, in a truth. -/
def Wn.At (w : Wn) (i : Nat) (x : Int) : Prop := (∃ a, inP a w.l ∧ Rch w.u (w.es.take i) a x) ∧ ∃ z, Rch w.u (w.es.drop i) x z
theorem Wn.Ok.B_in {w : Wn} (h : w.Ok) (i : Nat) (x : Int) : inP x (w.B i) ↔ w.At i x := by
  unfold Wn.B BW Wn.At
  rw [hdB_in (fun e he => h.ev e (List.mem_of_mem_drop he)), show FW w.u w.l w.es i = (w.es.take i).foldl (fun k e => fwdE w.u e k) w.l from rfl, fold_in (fun e he => h.ev e (List.mem_of_mem_take he))]
/-- From a to z there is a truth. -/
def Wn.Way (w : Wn) (a z : Int) : Prop := inP a w.l ∧ Rch w.u w.es a z
theorem Wn.At.way {w : Wn} {i : Nat} {x : Int} (h : w.At i x) : ∃ a z, w.Way a z ∧ Rch w.u (w.es.take i) a x ∧ Rch w.u (w.es.drop i) x z := by
  obtain ⟨⟨a, h1, h2⟩, z, h3⟩ := h
  refine ⟨a, z, ⟨h1, ?_⟩, h2, h3⟩
  rw [← List.take_append_drop i w.es]
  exact Rch_append.2 ⟨x, h2, h3⟩
theorem Wn.Way.at {w : Wn} {a z : Int} (h : w.Way a z) (i : Nat) : ∃ x, w.At i x := by
  have h2 := h.2
  rw [← List.take_append_drop i w.es] at h2
  obtain ⟨x, h3, h4⟩ := Rch_append.1 h2
  exact ⟨x, ⟨a, h.1, h3⟩, z, h4⟩
theorem Wn.Ok.can_iff {w : Wn} (h : w.Ok) : w.can = true ↔ ∃ a z, w.Way a z := by
  unfold Wn.can
  rw [poss_iff]
  constructor
  · rintro ⟨x, hx⟩
    obtain ⟨a, z, h1, _⟩ := ((h.B_in 0 x).1 hx).way
    exact ⟨a, z, h1⟩
  · rintro ⟨a, z, h1⟩
    obtain ⟨x, hx⟩ := h1.at 0
    exact ⟨x, (h.B_in 0 x).2 hx⟩
theorem Wn.Ok.poss {w : Wn} (h : w.Ok) (hc : w.can = true) (i : Nat) : (w.B i).1 ≤ (w.B i).2 := by
  obtain ⟨a, z, h1⟩ := h.can_iff.1 hc
  obtain ⟨x, hx⟩ := h1.at i
  have := (h.B_in i x).2 hx
  exact Int.le_trans this.1 this.2
/-- Both ends are those of truths. -/
theorem Wn.Ok.ends {w : Wn} (h : w.Ok) (hc : w.can = true) (i : Nat) : w.At i (w.B i).1 ∧ w.At i (w.B i).2 :=
  have hp := h.poss hc i
  ⟨(h.B_in i _).1 ⟨Int.le_refl _, hp⟩, (h.B_in i _).1 ⟨hp, Int.le_refl _⟩⟩
/-- What is lost: each length at first is followed alone. -/
def Wn.lost1 (w : Wn) (a : Int) : Sp := FW w.u (a, a) w.es w.es.length
theorem Wn.Ok.lost_in {w : Wn} (h : w.Ok) (a z : Int) : inP z (w.lost1 a) ↔ Rch w.u w.es a z := by
  unfold Wn.lost1
  rw [show FW w.u (a, a) w.es w.es.length = (w.es.take w.es.length).foldl (fun k e => fwdE w.u e k) (a, a) from rfl, fold_in (fun e he => h.ev e (List.mem_of_mem_take he)), List.take_length]
  exact ⟨fun ⟨x, hx, h1⟩ => by
    have : x = a := by unfold inP at hx; dsimp only at hx; omega
    subst this
    exact h1, fun h1 => ⟨a, ⟨Int.le_refl _, Int.le_refl _⟩, h1⟩⟩
end Go.Proofs.YtdehgplklgfcdaaGreat

namespace Go.Proofs.YtdehgplklgfcdaaGreat

def spI (s : Sp) (lo hi : Int) : Bool := decide (lo ≤ s.1 ∧ s.1 ≤ s.2 ∧ s.2 ≤ hi)
def Wn.ok (w : Wn) : Bool := spI w.l 0 300 && decide (w.l.2 - w.l.1 ≤ 20) && spI w.u 0 3 && decide (w.es.length ≤ 8) && w.es.all vEv
structure Wn.Fine (w : Wn) : Prop where
  l : 0 ≤ w.l.1 ∧ w.l.1 ≤ w.l.2 ∧ w.l.2 ≤ 300
  lw : w.l.2 - w.l.1 ≤ 20
  u : 0 ≤ w.u.1 ∧ w.u.1 ≤ w.u.2 ∧ w.u.2 ≤ 3
  n8 : w.es.length ≤ 8
  ev : ∀ e ∈ w.es, vEv e = true
theorem Wn.fine {w : Wn} (h : w.ok = true) : w.Fine := by
  unfold Wn.ok spI at h
  simp only [Bool.and_eq_true, decide_eq_true_eq, List.all_eq_true] at h
  exact ⟨h.1.1.1.1, h.1.1.1.2, h.1.1.2, h.1.2, h.2⟩
theorem Wn.Fine.okB {w : Wn} (h : w.Fine) : w.ok = true := by
  unfold Wn.ok spI
  simp only [Bool.and_eq_true, decide_eq_true_eq, List.all_eq_true]
  exact ⟨⟨⟨⟨h.l, h.lw⟩, h.u⟩, h.n8⟩, h.ev⟩
theorem Wn.Fine.ok_ {w : Wn} (h : w.Fine) : w.Ok := ⟨fun e he => evOk h.u.2.1 (h.ev e he)⟩
/-- What an event takes off. -/
theorem man_bd {u : Sp} {e : Ev} (hu : 0 ≤ u.1 ∧ u.1 ≤ u.2 ∧ u.2 ≤ 3) (hv : vEv e = true) (h0 : e.1 = 0) : 0 ≤ (manS e.2.1 u).1 ∧ (manS e.2.1 u).1 ≤ (manS e.2.1 u).2 ∧ (manS e.2.1 u).2 ≤ 60 := by
  unfold vEv at hv
  rw [h0] at hv
  have hn := of_decide_eq_true hv
  refine ⟨Int.mul_nonneg hn.1 hu.1, man_le hu.2.1 hn.1, ?_⟩
  show e.2.1 * u.2 ≤ 60
  have h1 : e.2.1 * u.2 ≤ e.2.1 * 3 := Int.mul_le_mul_of_nonneg_left hu.2.2 hn.1
  omega
theorem lap_bd {e : Ev} (hv : vEv e = true) (h2 : e.1 = 2) : 0 ≤ e.2.2.1 ∧ e.2.2.1 ≤ e.2.2.2 ∧ e.2.2.2 ≤ 10 := by
  unfold vEv at hv
  rw [h2] at hv
  exact of_decide_eq_true hv
theorem kind_of {e : Ev} (hv : vEv e = true) : e.1 = 0 ∨ e.1 = 1 ∨ e.1 = 2 := by
  unfold vEv at hv
  by_cases h0 : e.1 = 0
  · exact .inl h0
  by_cases h1 : e.1 = 1
  · exact .inr (.inl h1)
  by_cases h2 : e.1 = 2
  · exact .inr (.inr h2)
  rw [show (e.1 == 0) = false by simpa using h0, show (e.1 == 1) = false by simpa using h1, show (e.1 == 2) = false by simpa using h2] at hv
  cases hv
theorem read_bd {e : Ev} (hv : vEv e = true) (h0 : e.1 ≠ 0) (h2 : e.1 ≠ 2) : -1000 ≤ e.2.2.1 ∧ e.2.2.1 ≤ e.2.2.2 ∧ e.2.2.2 ≤ 1000 := by
  have h1 : e.1 = 1 := by have := kind_of hv; omega
  unfold vEv at hv
  rw [h1] at hv
  exact of_decide_eq_true hv
def bdS (k : Sp) (c : Int) : Prop := (-c ≤ k.1 ∧ k.1 ≤ c) ∧ -c ≤ k.2 ∧ k.2 ≤ c
theorem cut_bd {a b : Sp} {c d : Int} (ha : bdS a c) (hb : bdS b d) (h : d ≤ c) : bdS (cutS a b) c := by
  unfold bdS cutS at *
  dsimp only
  omega
theorem mov_bd {k b : Sp} {c : Int} (hk : bdS k c) (hb : bdS b 60) : bdS (movS k b) (c + 60) := by
  unfold movS
  unfold bdS at *
  cases possS k
  · simp only [cond_false]
    omega
  · simp only [cond_true]
    omega
theorem fwd_bd {u : Sp} {e : Ev} (hu : 0 ≤ u.1 ∧ u.1 ≤ u.2 ∧ u.2 ≤ 3) (hv : vEv e = true) {k : Sp} {c : Int} (hc : 1000 ≤ c) (hk : bdS k c) : bdS (fwdE u e k) (c + 60) := by
  unfold fwdE
  by_cases h0 : e.1 = 0
  · rw [show (e.1 == 0) = true by simpa using h0]
    have := man_bd hu hv h0
    exact mov_bd hk (by unfold bdS negS; dsimp only; omega)
  rw [show (e.1 == 0) = false by simpa using h0]
  by_cases h2 : e.1 = 2
  · rw [show (e.1 == 2) = true by simpa using h2]
    have := lap_bd hv h2
    exact mov_bd hk (by unfold bdS negS; dsimp only; omega)
  rw [show (e.1 == 2) = false by simpa using h2]
  have := read_bd hv h0 h2
  have h3 := cut_bd (b := e.2.2) (d := 1000) hk (by unfold bdS; omega) hc
  unfold bdS at h3 ⊢
  simp only [cond_false]
  omega
theorem bck_bd {u : Sp} {e : Ev} (hu : 0 ≤ u.1 ∧ u.1 ≤ u.2 ∧ u.2 ≤ 3) (hv : vEv e = true) {k : Sp} {c : Int} (hc : 1000 ≤ c) (hk : bdS k c) : bdS (bckE u e k) (c + 60) := by
  unfold bckE
  by_cases h0 : e.1 = 0
  · rw [show (e.1 == 0) = true by simpa using h0]
    have := man_bd hu hv h0
    exact mov_bd hk (by unfold bdS; omega)
  rw [show (e.1 == 0) = false by simpa using h0]
  by_cases h2 : e.1 = 2
  · rw [show (e.1 == 2) = true by simpa using h2]
    have := lap_bd hv h2
    exact mov_bd hk (by unfold bdS; omega)
  rw [show (e.1 == 2) = false by simpa using h2]
  have := read_bd hv h0 h2
  have h3 := cut_bd (b := e.2.2) (d := 1000) hk (by unfold bdS; omega) hc
  unfold bdS at h3 ⊢
  simp only [cond_false]
  omega
theorem elE_mem {es : List Ev} {i : Nat} (h : i < es.length) : elE es i ∈ es := by rw [elE_at h]; exact List.getElem_mem h
theorem FW_bd {u l : Sp} {es : List Ev} (hu : 0 ≤ u.1 ∧ u.1 ≤ u.2 ∧ u.2 ≤ 3) (hv : ∀ e ∈ es, vEv e = true) (hl : bdS l 1000) : ∀ i, i ≤ es.length → bdS (FW u l es i) (1000 + 60 * (i : Int))
  | 0, _ => by rw [FW_zero]; simpa using hl
  | i + 1, h => by
    rw [FW_next u l (by omega)]
    have := fwd_bd hu (hv _ (elE_mem (by omega : i < es.length))) (by omega) (FW_bd hu hv hl i (by omega))
    unfold bdS at this ⊢
    omega
theorem BW_bd {u l : Sp} {es : List Ev} (hu : 0 ≤ u.1 ∧ u.1 ≤ u.2 ∧ u.2 ≤ 3) (hv : ∀ e ∈ es, vEv e = true) (hl : bdS l 1000) : ∀ j i, j + i = es.length → bdS (BW u l es i) (1000 + 60 * (es.length : Int) + 60 * (j : Int))
  | 0, i, h => by
    obtain rfl : i = es.length := by omega
    rw [BW_last]
    have := FW_bd hu hv hl es.length (Nat.le_refl _)
    unfold bdS at this ⊢
    omega
  | j + 1, i, h => by
    rw [BW_prev u l (by omega)]
    have h1 := FW_bd hu hv hl i (by omega)
    have h2 := bck_bd hu (hv _ (elE_mem (by omega : i < es.length))) (by omega) (BW_bd hu hv hl j (i + 1) (by omega))
    unfold bdS cutS at *
    dsimp only
    omega
theorem Wn.Fine.F_bd {w : Wn} (h : w.Fine) {i : Nat} (hi : i ≤ w.es.length) : bdS (w.F i) 2000 := by
  have h1 := FW_bd h.u h.ev (l := w.l) (by have := h.l; unfold bdS; omega) i hi
  have h2 := h.n8
  unfold Wn.F
  unfold bdS at h1 ⊢
  omega
theorem Wn.Fine.B_bd {w : Wn} (h : w.Fine) {i : Nat} (hi : i ≤ w.es.length) : bdS (w.B i) 2000 := by
  have h1 := BW_bd h.u h.ev (l := w.l) (by have := h.l; unfold bdS; omega) (w.es.length - i) i (by omega)
  have h2 := h.n8
  unfold Wn.B
  unfold bdS at h1 ⊢
  omega
/-- The set of those below n of which p is so. -/
def bitsP (p : Nat → Bool) (n : Nat) : Nat := (List.range n).foldl (fun s i => bif p i then s ||| (1 <<< i) else s) 0
theorem bitsP_next (p : Nat → Bool) (n : Nat) : bitsP p (n + 1) = bif p n then bitsP p n ||| (1 <<< n) else bitsP p n := by
  unfold bitsP
  rw [List.range_succ, List.foldl_append]
  rfl
theorem bitsP_has (p : Nat → Bool) : ∀ n i, (bitsP p n).testBit i = (decide (i < n) && p i)
  | 0, i => by simp [bitsP]
  | n + 1, i => by
    rw [bitsP_next]
    have h := bitsP_has p n i
    cases hp : p n with
    | false =>
      simp only [cond_false, h]
      by_cases e : i = n
      · subst e; simp [hp]
      · congr 1
        rw [decide_eq_decide]
        omega
    | true =>
      simp only [cond_true, Nat.testBit_or, h, Nat.one_shiftLeft, Nat.testBit_two_pow]
      by_cases e : n = i
      · subst e; simp [hp]
      · rw [decide_eq_false e, Bool.or_false]
        congr 1
        rw [decide_eq_decide]
        omega
theorem bitsP_lt (p : Nat → Bool) (n : Nat) : bitsP p n < 2 ^ n := by
  apply Nat.lt_pow_two_of_testBit
  intro i hi
  rw [bitsP_has]
  simp
  omega
/-- The first number of a list of which it is so. -/
def firstL (p : Nat → Bool) : List Nat → Option Nat
  | [] => none
  | x :: l => bif p x then some x else firstL p l
theorem firstL_append (p : Nat → Bool) : ∀ (a b : List Nat), (∀ x ∈ a, p x = false) → firstL p (a ++ b) = firstL p b
  | [], b, _ => rfl
  | x :: a, b, h => by
    show (bif p x then some x else firstL p (a ++ b)) = _
    rw [h x List.mem_cons_self]
    exact firstL_append p a b fun y hy => h y (List.mem_cons_of_mem _ hy)
theorem firstL_none {p : Nat → Bool} : ∀ {l : List Nat}, firstL p l = none ↔ ∀ x ∈ l, p x = false
  | [] => ⟨fun _ x h => (by cases h), fun _ => rfl⟩
  | x :: l => by
    show (bif p x then some x else firstL p l) = none ↔ _
    cases h : p x with
    | true => exact ⟨fun h => (by cases h), fun h2 => (by rw [h2 x List.mem_cons_self] at h; cases h)⟩
    | false =>
      refine firstL_none.trans ⟨fun h2 y hy => ?_, fun h2 y hy => h2 y (List.mem_cons_of_mem _ hy)⟩
      rcases List.mem_cons.1 hy with rfl | hy
      · exact h
      · exact h2 y hy
end Go.Proofs.YtdehgplklgfcdaaGreat

namespace Go.Proofs.YtdehgplklgfcdaaGreat

/-- By how much a place can be greater than another one, at most. -/
abbrev Gp := Nat → Nat → Int
/-- The bounds with one more: a is greater than b by m, at most. -/
def Gp.lim (g : Gp) (a b : Nat) (m : Int) : Gp := fun i j => min (g i j) (g i a + m + g b j)

/-- What is not known of n - 1 places but that each is within d of the last one. -/
def Gp.free (n : Nat) (d : Int) : Gp := fun i j => if i = j then 0 else if i = n ∨ j = n then d else 2 * d
/-- One reading more: the difference of a and b lies from lo to hi; none: it cannot. -/
def Gp.put (g : Gp) (a b : Nat) (lo hi : Int) : Option Gp :=
  if hi + g b a < 0 then none else if -lo + g.lim a b hi a b < 0 then none else some ((g.lim a b hi).lim b a (-lo))
/-- No bound is greater than d. -/
def Gp.Small (n : Nat) (d : Int) (g : Gp) : Prop := ∀ i j, i < n → j < n → g i j ≤ d
theorem Gp.Small.lim {n : Nat} {d : Int} {g : Gp} (h : g.Small n d) (a b : Nat) (m : Int) : (g.lim a b m).Small n d := fun i j hi hj => Int.le_trans (Int.min_le_left _ _) (h i j hi hj)
theorem Gp.Small.put {n : Nat} {d : Int} {g g' : Gp} (h : g.Small n d) {a b : Nat} {lo hi : Int} (e : g.put a b lo hi = some g') : g'.Small n d := by
  unfold Gp.put at e
  split at e
  · cases e
  · split at e
    · cases e
    · cases e
      exact (h.lim _ _ _).lim _ _ _
/-- Readings: two places, and from where to where they differ. -/
abbrev Bd := Nat × Nat × Int × Int
def Bd.Has (x : Nat → Int) (r : Bd) : Prop := r.2.2.1 ≤ x r.1 - x r.2.1 ∧ x r.1 - x r.2.1 ≤ r.2.2.2
def Gp.puts (g : Gp) : List Bd → Option Gp
  | [] => some g
  | r :: l => (g.put r.1 r.2.1 r.2.2.1 r.2.2.2).bind fun g' => g'.puts l
theorem Gp.Small.puts {n : Nat} {d : Int} : ∀ {l : List Bd} {g g' : Gp}, g.Small n d → g.puts l = some g' → g'.Small n d
  | [], _, _, h, e => by
    cases e
    exact h
  | r :: l, g, g', h, e => by
    unfold Gp.puts at e
    cases e1 : g.put r.1 r.2.1 r.2.2.1 r.2.2.2 with
    | none =>
      rw [e1] at e
      cases e
    | some g1 =>
      rw [e1] at e
      exact (h.put e1).puts e
end Go.Proofs.YtdehgplklgfcdaaGreat

namespace Go.Proofs.YtdehgplklgfcdaaGreat

/-- A reading: two blocks, a minute, and from where to where it is. -/
structure Rdg where
  a : Nat
  b : Nat
  at_ : Int
  lo : Int
  hi : Int
/-- A pair as numbers; no addresses. -/
structure Prn where
  bs : List (Int × Int)
  zlo : Int
  zhi : Int
  rlo : Int
  rhi : Int
  rs : List Rdg
/-- What a comparator shows of equal blocks at a minute. -/
def shw (c : Int × Int) (m : Int) : Int := c.1 + c.2 * m / 10
/-- The span of a block; one that is not there is as short as can be. -/
def Prn.blk (p : Prn) (i : Nat) : Int × Int := p.bs[i]?.getD (-20, -20)
def Prn.bds (p : Prn) : List Bd := (List.range 5).map fun i => (i, 5, (p.blk i).1, (p.blk i).2)
def Rdg.bd (c : Int × Int) (r : Rdg) : Bd := (r.a, r.b, r.lo - shw c r.at_, r.hi - shw c r.at_)
/-- What blocks can differ by before anything is read; and with a comparator, by all readings. -/
def Prn.unread (p : Prn) : Option Gp := (Gp.free 5 20).puts p.bds
def Prn.left (p : Prn) (c : Int × Int) : Option Gp := p.unread.bind fun g => g.puts (p.rs.map (Rdg.bd c))
/-- Is this so, with this comparator? -/
structure Prn.Tr (p : Prn) (c : Int × Int) (x : Nat → Int) : Prop where
  mark : x 5 = 0
  blk : ∀ i, i < 5 → (p.blk i).1 ≤ x i ∧ x i ≤ (p.blk i).2
  rd : ∀ r ∈ p.rs, r.lo ≤ x r.a - x r.b + shw c r.at_ ∧ x r.a - x r.b + shw c r.at_ ≤ r.hi
/-- What is needed of a pair that is valid. -/
structure Prn.Ok (p : Prn) : Prop where
  bl : ∀ i, i < 5 → -20 ≤ (p.blk i).1 ∧ (p.blk i).1 ≤ (p.blk i).2 ∧ (p.blk i).2 ≤ 20
  rl : ∀ r ∈ p.rs, r.a < 5 ∧ r.b < 5
/-- Fewer readings leave no less. -/
theorem Prn.Tr.fewer {p q : Prn} (hb : p.bs = q.bs) (hr : ∀ r ∈ q.rs, r ∈ p.rs) {c : Int × Int} {x : Nat → Int} (h : p.Tr c x) : q.Tr c x :=
  ⟨h.mark, fun i hi => by have := h.blk i hi; unfold Prn.blk at this ⊢; rw [← hb]; exact this, fun r hr' => h.rd r (hr r hr')⟩
end Go.Proofs.YtdehgplklgfcdaaGreat

namespace Go.Proofs.YtdehgplklgfcdaaGreat

/-- All comparators that a pair can have, in order. -/
def Prn.comps (p : Prn) : List (Int × Int) := (List.range (p.zhi - p.zlo + 1).toNat).flatMap fun (i : Nat) => (List.range (p.rhi - p.rlo + 1).toNat).map fun (j : Nat) => (p.zlo + (i : Int), p.rlo + (j : Int))
/-- What is left with each comparator with which there is a truth. -/
def Prn.known (p : Prn) : List ((Int × Int) × Gp) := p.comps.filterMap fun c => (p.left c).map fun g => (c, g)
end Go.Proofs.YtdehgplklgfcdaaGreat

namespace Go.Proofs.YtdehgplklgfcdaaGreat

/-- How many of the first eight bits are set. -/
def bitsN (s : Nat) : Nat := (List.range 8).countP fun i => s.testBit i
theorem bitsN_le {n s : Nat} (hn : n ≤ 8) (hs : s < 2 ^ n) : bitsN s ≤ n := by
  unfold bitsN
  have h : (List.range 8) = List.range n ++ (List.range (8 - n)).map (n + ·) := by
    rw [← List.range_add]
    congr 1
    omega
  rw [h, List.countP_append]
  have h1 : (List.range n).countP (fun i => s.testBit i) ≤ n := by
    have := List.countP_le_length (p := fun i => s.testBit i) (l := List.range n)
    rwa [List.length_range] at this
  have h2 : ((List.range (8 - n)).map (n + ·)).countP (fun i => s.testBit i) = 0 := by
    rw [List.countP_eq_zero]
    intro i hi
    obtain ⟨j, _, rfl⟩ := List.mem_map.1 hi
    have : s.testBit (n + j) = false := Nat.testBit_lt_two_pow (Nat.lt_of_lt_of_le hs (Nat.pow_le_pow_right (by omega) (by omega)))
    simp [this]
  omega
/-- The readings of which something is so, by their numbers. -/
def keepL (rs : List Rdg) (f : Nat → Bool) : List Rdg := (rs.zipIdx.filter fun x => f x.2).map (·.1)
def Prn.keep (p : Prn) (f : Nat → Bool) : Prn := { p with rs := keepL p.rs f }
theorem mem_keepL {rs : List Rdg} {f : Nat → Bool} {r : Rdg} : r ∈ keepL rs f ↔ ∃ i, rs[i]? = some r ∧ f i = true := by
  unfold keepL
  rw [List.mem_map]
  constructor
  · rintro ⟨⟨q, i⟩, h, rfl⟩
    obtain ⟨h1, h2⟩ := List.mem_filter.1 h
    exact ⟨i, List.mem_zipIdx_iff_getElem?.1 h1, h2⟩
  · rintro ⟨i, h1, h2⟩
    exact ⟨(r, i), List.mem_filter.2 ⟨List.mem_zipIdx_iff_getElem?.2 h1, h2⟩, rfl⟩
theorem Prn.Ok.keep {p : Prn} (hp : p.Ok) (f : Nat → Bool) : (p.keep f).Ok :=
  ⟨hp.bl, fun r hr => by
    obtain ⟨i, h, _⟩ := mem_keepL.1 hr
    exact hp.rl r (List.mem_of_getElem? h)⟩
theorem Prn.Tr.keep {p : Prn} {f g : Nat → Bool} (hfg : ∀ i, i < p.rs.length → g i = true → f i = true) {c : Int × Int} {x : Nat → Int} (h : (p.keep f).Tr c x) : (p.keep g).Tr c x :=
  ⟨h.mark, h.blk, fun r hr => by
    obtain ⟨i, h1, h2⟩ := mem_keepL.1 hr
    obtain ⟨hi, _⟩ := List.getElem?_eq_some_iff.1 h1
    exact h.rd r (mem_keepL.2 ⟨i, h1, hfg i hi h2⟩)⟩
end Go.Proofs.YtdehgplklgfcdaaGreat
