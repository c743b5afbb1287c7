/-
  FringeTrue, its numbers: what a length that is a truth says of all that is told.
  FringeTrue's fringe in the making: what holds while its waves and its readings are drawn.
  law.made's reading: a region that draws its order, as a theorem of its own.
  law.made: a fringe whose readings are right of a length, and the length.
-/
import Derived.Test.YtoidnbpbeblokaaVa
import Derived.Test.YtoidnbpbeblokaaZr
import Derived.Test.YtoidnbpbeblokaaUb
import Derived.Test.YtoidnbpbeblokaaZq
import Derived.Test.YtoidnbpbeblokaaTb
import Derived.OneCell
import Derived.Deep.RegionLaw
import Derived.Deep.RegionHeld3
import Derived.IntWalk
namespace Go.Proofs.Ytoidnbpbeblokaa

/-- n is a truth of F. -/
structure TrueIn (F : Fr) (n : Int) : Prop where
  ok : F.ok = true
  lo : F.lo ≤ n
  hi : n ≤ F.hi
  right : F.gs.all (rightB · n) = true
theorem TrueIn.bd {F : Fr} {n : Int} (h : TrueIn F n) : 0 ≤ n ∧ n ≤ 2000 := by
  have := F.len_in h.ok
  have := h.lo
  have := h.hi
  omega
theorem TrueIn.ln {F : Fr} {n : Int} (h : TrueIn F n) : ∃ x ∈ F.truths, ((x.val : Nat) : Int) = n := by
  have hb := h.bd
  have e : ((n.toNat : Nat) : Int) = n := by omega
  refine ⟨⟨n.toNat, by omega⟩, (mem_truths h.ok).2 ?_, e⟩
  dsimp only
  rw [e]
  exact ⟨h.lo, h.hi, h.right⟩
theorem TrueIn.ne {F : Fr} {n : Int} (h : TrueIn F n) : F.truths ≠ [] := by
  obtain ⟨x, hx, _⟩ := h.ln
  intro e
  rw [e] at hx
  exact absurd hx List.not_mem_nil
theorem TrueIn.in_flat {F : Fr} {n : Int} (h : TrueIn F n) : n ∈ flat (spansOf F.truths) := by
  obtain ⟨x, hx, e⟩ := h.ln
  rw [(spansOf_facts F.truths (truths_sorted F)).1]
  exact List.mem_map.2 ⟨x, hx, e⟩
theorem TrueIn.is_near {F : Fr} {n : Int} (h : TrueIn F n) : nearR F n = (n, 0) := by
  have hb := h.bd
  have hd := (near_flat F h.ne n).2 n h.in_flat
  have e : near n F.truths = n := by
    have h1 := hd.1
    unfold dist at h1
    rw [if_pos (Int.le_refl n)] at h1
    split at h1 <;> omega
  unfold nearR
  rw [if_neg (by simp [h.ok]), if_neg (by omega), if_neg h.ne, e]
theorem wo_zero (gs : List Rg) : ∀ g, g ∈ wo gs 0 → g ∈ gs := by
  intro g hg
  obtain ⟨i, hi, _, rfl⟩ := mem_wo.1 hg
  rw [List.getElem?_eq_getElem hi]
  exact List.getElem_mem hi
theorem TrueIn.agree {F : Fr} {n : Int} (h : TrueIn F n) : F.agreeW 0 = true := by
  have hb := h.bd
  have e : ((n.toNat : Nat) : Int) = n := by omega
  refine (agreeW_iff F h.ok 0).2 ⟨n.toNat, ?_⟩
  rw [e]
  exact ⟨h.lo, h.hi, fun g hg => List.all_eq_true.1 h.right g (wo_zero _ g hg)⟩
theorem TrueIn.is_wrong {F : Fr} {n : Int} (h : TrueIn F n) : wrongR F = (0, 0) := by
  obtain ⟨h1, _, h3⟩ := wrong_facts F h.ok
  have h4 := h3 0 (Nat.pow_pos (by omega)) h.agree
  have hs := setOf_lt F.wrong
  have e : setOf F.wrong = 0 := by
    have hz : pop 0 = 0 := by decide
    unfold NoLater at h4
    rw [hz] at h4
    exact (bits_pop0 _ hs).2.1 (by omega)
  unfold wrongR
  rw [if_pos h.ok, e]
theorem TrueIn.is_clash {F : Fr} {n : Int} (h : TrueIn F n) : clashR F = (0, 4) := by
  unfold clashR
  rw [if_neg (by simp [h.ok]), clash_is_none F h.ok h.agree]
  rfl
theorem TrueIn.is_lens {F : Fr} {n : Int} (h : TrueIn F n) : lenE F = 0 ∧ lenL F = spansOf F.truths := by
  unfold lenE lenL
  rw [if_neg (by simp [h.ok]), if_neg h.ne, if_neg (by simp [h.ok]), if_neg h.ne]
  exact ⟨rfl, rfl⟩
theorem TrueIn.is_count {F : Fr} {n : Int} (h : TrueIn F n) : countR F = (((F.truths.length : Nat) : Int), 0) ∧ 0 < F.truths.length ∧ F.truths.length ≤ 401 :=
  ⟨by simp [countR, h.ok], List.length_pos_iff.2 h.ne, F.truths_len h.ok⟩
theorem TrueIn.is_colE {F : Fr} {n : Int} (h : TrueIn F n) {c : Nat} (hc : c < F.ws.length) : colE F (c : Int) = 0 := colE_0 h.ok (by omega) h.ne
theorem cdup_mem {l : List Int} {n : Int} : n ∈ cdup l ↔ n ∈ l := by
  induction l using snoc_ind with
  | h0 => exact Iff.rfl
  | h1 l x ih =>
    rw [cdup_snoc, cdStep, List.mem_append, List.mem_singleton, ← ih]
    split
    · rename_i hx
      constructor
      · exact .inl
      · rintro (h | rfl)
        · exact h
        · exact List.mem_of_getLast? hx
    · rw [List.mem_append, List.mem_singleton]
theorem TrueIn.is_whole {F : Fr} {n : Int} (h : TrueIn F n) {c : Nat} (hc : c < F.ws.length) : n / F.ws[c]?.getD 0 ∈ whoL F (c : Int) := by
  have hw := F.wave_in h.ok hc
  obtain ⟨x, hx, e⟩ := h.ln
  unfold whoL
  rw [if_pos (h.is_colE hc), Int.toNat_natCast, whs_eq (by omega) _ (truths_sorted F), cdup_mem]
  exact List.mem_map.2 ⟨x, hx, by rw [e]⟩
theorem TrueIn.whole_len {F : Fr} {n : Int} (h : TrueIn F n) {c : Nat} (hc : c < F.ws.length) : (whoL F (c : Int)).length ≤ 401 := by
  have hw := F.wave_in h.ok hc
  unfold whoL
  rw [if_pos (h.is_colE hc), Int.toNat_natCast, whs_eq (by omega) _ (truths_sorted F)]
  refine Nat.le_trans (cdup_len _) ?_
  rw [List.length_map]
  exact F.truths_len h.ok
/-- Is v among the first j of a list? -/
def inL (L : List Int) (v : Int) (j : Nat) : Bool := decide (v ∈ L.take j)
theorem inL_zero (L : List Int) (v : Int) : inL L v 0 = false := by simp [inL]
theorem inL_succ {L : List Int} {v : Int} {j : Nat} (hj : j < L.length) : inL L v (j + 1) = (inL L v j || (L[j]?.getD 0 == v)) := by
  rw [inL, inL, List.take_succ_eq_append_getElem hj, List.getElem?_eq_getElem hj, Option.getD_some, Bool.eq_iff_iff]
  simp only [decide_eq_true_eq, List.mem_append, List.mem_singleton, Bool.or_eq_true, beq_iff_eq]
  exact or_congr Iff.rfl eq_comm
theorem inL_all {L : List Int} {v : Int} (h : v ∈ L) : inL L v L.length = true := by
  rw [inL, List.take_length]
  exact decide_eq_true h
theorem psOf_has {x : Int} {ns : List Int} {n : Int} (h : n ∈ ns) : psOf x ns ||| 2 ^ (20 * (n % x) / x).toNat = psOf x ns := by
  induction ns using snoc_ind with
  | h0 => exact absurd h List.not_mem_nil
  | h1 l y ih =>
    rw [psOf_snoc]
    rcases List.mem_append.1 h with h | h
    · rw [Nat.or_assoc, Nat.or_comm (2 ^ _), ← Nat.or_assoc, ih h]
    · obtain rfl := List.mem_singleton.1 h
      rw [Nat.or_assoc, Nat.or_self]
theorem TrueIn.is_parts {F : Fr} {n : Int} (h : TrueIn F n) {c : Nat} (hc : c < F.ws.length) {p : Nat} (hp : 20 * (n % F.ws[c]?.getD 0) / F.ws[c]?.getD 0 = p) :
    (parS F (c : Int)).testBit p = true ∧ parS F (c : Int) < 1048576 := by
  have hw := F.wave_in h.ok hc
  obtain ⟨x, hx, e⟩ := h.ln
  unfold parS
  rw [if_pos (h.is_colE hc), Int.toNat_natCast, parts_eq]
  refine ⟨?_, psOf_lt (by omega) _⟩
  rw [← psOf_has (x := F.ws[c]?.getD 0) (List.mem_map.2 ⟨x, hx, e⟩), hp, Int.toNat_natCast, Nat.testBit_or, Nat.testBit_two_pow_self, Bool.or_true]
theorem TrueIn.is_part {F : Fr} {n : Int} (h : TrueIn F n) {c : Nat} (hc : c < F.ws.length) : partR F n (c : Int) = (n / F.ws[c]?.getD 0, 20 * (n % F.ws[c]?.getD 0) / F.ws[c]?.getD 0, 0) := by
  have hb := h.bd
  unfold partR
  rw [if_neg (by simp [h.ok]), if_neg (by omega), Int.toNat_natCast]
theorem TrueIn.is_ask {F : Fr} {n : Int} (h : TrueIn F n) : ∃ c l : Nat, askR F = ((c, l), 0) ∧ c < F.ws.length ∧ 1 ≤ l ∧ l ≤ F.truths.length ∧ ∀ p : Nat, 20 * (n % F.ws[c]?.getD 0) / F.ws[c]?.getD 0 = p → p < 20 → 1 ≤ cntP (F.ws[c]?.getD 0) F.truths p ∧ cntP (F.ws[c]?.getD 0) F.truths p ≤ l := by
  have hw : 1 ≤ F.ws.length := by
    have h := h.ok
    simp only [Fr.ok, vFringe, vWaves, Bool.and_eq_true, decide_eq_true_eq] at h
    exact h.1.1.1.1
  obtain ⟨a1, a2, _⟩ := askTo_facts F.ws F.truths F.ws.length (by omega)
  obtain ⟨⟨c, l⟩, hcl⟩ : ∃ cl, askTo F.ws F.truths F.ws.length = cl := ⟨_, rfl⟩
  rw [hcl] at a1 a2
  dsimp only at a1 a2
  have hin : ∀ p : Nat, 20 * (n % F.ws[c]?.getD 0) / F.ws[c]?.getD 0 = p → p < 20 → 1 ≤ cntP (F.ws[c]?.getD 0) F.truths p ∧ cntP (F.ws[c]?.getD 0) F.truths p ≤ l := by
    intro p hp hp2
    obtain ⟨x, hx, e⟩ := h.ln
    refine ⟨?_, ?_⟩
    · have : x ∈ F.truths.filter fun x => partI (F.ws[c]?.getD 0) (x.val : Nat) == p := List.mem_filter.2 ⟨hx, by simp only [partI, e, hp, beq_self_eq_true]⟩
      exact List.length_pos_of_mem this
    · rw [a2]
      exact (mostP_le _ _ _).1 (Nat.le_refl _) p hp2
  have hwc := F.wave_in h.ok a1
  obtain ⟨p0, p1⟩ := partI_bd (wv := F.ws[c]?.getD 0) (n := n) (by omega)
  unfold partI at p0 p1
  obtain ⟨p, hp⟩ := Int.eq_ofNat_of_zero_le p0
  have := hin p hp (by omega)
  exact ⟨c, l, by simp [askR, h.ok, h.ne, hcl], a1, by omega, by rw [a2]; exact mostP_bd _ _, hin⟩
theorem found_has {L : List Sp} {n : Int} (h : n ∈ flat L) : inFlat L n L.length = true := by
  unfold inFlat
  rw [List.take_length]
  exact decide_eq_true h
end Go.Proofs.Ytoidnbpbeblokaa

namespace Go.Proofs.Ytoidnbpbeblokaa
open Go.RowKit Go.Shelf

theorem read_right {x n p off d a : Int} (hp : 20 * (n % x) / x = p) (h0 : 0 ≤ p) (h1 : p ≤ 19) (o0 : 0 ≤ off) (o1 : off ≤ 3) (d0 : 0 ≤ d) (d1 : d ≤ 3) (ha : a = (p - off + 20) % 20) :
    vPart a (a + off + d) = true ∧ rightB (x, a, a + off + d) n = true := by
  have hv : a = p - off ∨ a = p - off + 20 := by omega
  have a0 : 0 ≤ a := by omega
  have a1 : a ≤ 19 := by omega
  refine ⟨by simp only [vPart, decide_eq_true_eq]; omega, ?_⟩
  unfold rightB plainB roundB partI
  dsimp only
  rw [hp]
  split <;> simp only [decide_eq_true_eq] <;> omega

/-- The world while numbers are drawn: the count in its box, what is drawn from, and all that lay there before. -/
structure Draws (w0 : World) (bx bb : Nat) (a : Option Addr) (xs : List Int) (cap : Nat) (t : Nat) (w : World) : Prop where
  x : w.cell? ⟨bx, 0, none⟩ = some (.int .i64 t)
  f : w.frozen? ⟨bx, 0, none⟩ = false
  b : w.cell? ⟨bb, 0, none⟩ = some (.slice a xs.length cap)
  k : Keeps w0 w
/-- What is known of the boxes and of what is drawn from. -/
structure Src (w0 : World) (bx bb : Nat) (a : Option Addr) (xs : List Int) : Prop where
  h0 : w0.heap.size ≤ bx
  hb : w0.heap.size ≤ bb
  ne : bb ≠ bx
  u : U16s w0 a xs
  l : xs.length ≤ maxLen
theorem Draws.keep {w0 : World} {bx bb : Nat} {a : Option Addr} {xs : List Int} {cap t : Nat} {w w' : World} (d : Draws w0 bx bb a xs cap t w) (k : Keeps w w') : Draws w0 bx bb a xs cap t w' :=
  ⟨k.cell d.x, (k.cells.2 _ 0 (lt_of_cell d.x)).trans d.f, k.cell d.b, d.k.trans k⟩
/-- Cells of other blocks, behind a number drawn. -/
theorem drawn_cell {w w' : World} {bx b o n : Nat} {v : Value} (e : w' = (w.setCell ⟨bx, 0, none⟩ v).drewN n) (h : b ≠ bx) : w'.cell? ⟨b, o, none⟩ = w.cell? ⟨b, o, none⟩ := by
  subst e
  exact cell_set_other (by omega)
theorem drawn_frozen {w w' : World} {bx b o n : Nat} {v : Value} (e : w' = (w.setCell ⟨bx, 0, none⟩ v).drewN n) : w'.frozen? ⟨b, o, none⟩ = w.frozen? ⟨b, o, none⟩ := by
  subst e
  exact World.frozen?_setCell ..
theorem Draws.next {w0 : World} {bx bb : Nat} {a : Option Addr} {xs : List Int} {cap t : Nat} {w w' : World} {n : Nat} (d : Draws w0 bx bb a xs cap t w) (s : Src w0 bx bb a xs) (e : w' = (w.setCell ⟨bx, 0, none⟩ (.int .i64 ((t : Int) + 1))).drewN n) : Draws w0 bx bb a xs cap (t + 1) w' :=
  ⟨by subst e; exact cell_set_same (by rw [d.x]; rfl), (drawn_frozen e).trans d.f, (drawn_cell e s.ne).trans d.b, by subst e; exact (d.k.setCell _ s.h0).drewN n⟩
theorem Draws.call {w0 : World} {bx bb : Nat} {a : Option Addr} {xs : List Int} {cap t : Nat} {w : World} (d : Draws w0 bx bb a xs cap t w) (s : Src w0 bx bb a xs) (ht : t ≤ 1000) (k : Int) (hk : 1 ≤ k) :
    Calls Try.prog 82 #[.int .i64 k, .pointer (some ⟨bx, 0, none⟩), .pointer (some ⟨bb, 0, none⟩)] w (Drawn bx (t : Int) k w) := by
  have hu := s.u.keep d.k
  by_cases h : xs = []
  · subst h
    exact draw_none bx bb cap a t k w d.x d.f d.b s.ne (by omega) (by omega) hk
  · obtain ⟨b, o, rfl, hc⟩ := hu h
    obtain ⟨b', o', e', hc'⟩ := s.u h
    cases e'
    have hp := List.length_pos_iff.2 h
    have hlt := lt_of_cell (hc' 0 hp).1
    have h0 := s.h0
    exact draw_some bx bb cap b o xs t k w d.x d.f d.b s.ne (by omega) hc hp s.l (by omega) (by omega) hk

/-- While the fringe is made: its block, its waves and its readings, each in a row of the call's own. -/
structure Making (w0 : World) (bx bb : Nat) (a : Option Addr) (xs : List Int) (cap B : Nat) (t : Nat) (w : World) (vw : Value) (ws : List Int) (lo hi : Int) (vr : Value) (rs : List Rd) : Prop where
  d : Draws w0 bx bb a xs cap t w
  f : Four w B vw (.int .i64 lo) (.int .i64 hi) vr
  rw : w.ownsRow (B + 1) 3 1 vw ws.length (ws.map (Value.int .i64))
  rr : w.ownsRow (B + 1) 41 3 vr rs.length (rdCells rs)
section
variable {w0 : World} {bx bb : Nat} {a : Option Addr} {xs : List Int} {cap B t : Nat} {w w' : World} {vw vr : Value} {ws : List Int} {lo hi : Int} {rs : List Rd}
theorem Making.keep (m : Making w0 bx bb a xs cap B t w vw ws lo hi vr rs) (k : Keeps w w') : Making w0 bx bb a xs cap B t w' vw ws lo hi vr rs :=
  ⟨m.d.keep k, m.f.keep k, m.rw.kept (k.grown none) (not_own_none _), m.rr.kept (k.grown none) (not_own_none _)⟩
theorem Making.next {n : Nat} (m : Making w0 bx bb a xs cap B t w vw ws lo hi vr rs) (s : Src w0 bx bb a xs) (hB : bx < B) (e : w' = (w.setCell ⟨bx, 0, none⟩ (.int .i64 ((t : Int) + 1))).drewN n) : Making w0 bx bb a xs cap B (t + 1) w' vw ws lo hi vr rs :=
  ⟨m.d.next s e, ⟨(drawn_cell e (by omega)).trans m.f.c0, (drawn_cell e (by omega)).trans m.f.c1, (drawn_cell e (by omega)).trans m.f.c2, (drawn_cell e (by omega)).trans m.f.c3, fun o => (drawn_frozen e).trans (m.f.fr o)⟩,
    by subst e; exact ownsRow_setCell_below m.rw (by show bx < B + 1; omega) _, by subst e; exact ownsRow_setCell_below m.rr (by show bx < B + 1; omega) _⟩
/-- A number is drawn. -/
def Next (w0 : World) (bx bb : Nat) (a : Option Addr) (xs : List Int) (cap B t : Nat) (vw : Value) (ws : List Int) (lo hi : Int) (vr : Value) (rs : List Rd) (k : Int) (e : Ending) (w' : World) : Prop :=
  ∃ v : Nat, e = .returned (.int .i64 v) ∧ (v : Int) < k ∧ Making w0 bx bb a xs cap B (t + 1) w' vw ws lo hi vr rs
theorem Making.call (m : Making w0 bx bb a xs cap B t w vw ws lo hi vr rs) (s : Src w0 bx bb a xs) (hB : bx < B) (ht : t ≤ 1000) (k : Int) (hk : 1 ≤ k) :
    Calls Try.prog 82 #[.int .i64 k, .pointer (some ⟨bx, 0, none⟩), .pointer (some ⟨bb, 0, none⟩)] w (Next w0 bx bb a xs cap B t vw ws lo hi vr rs k) := by
  refine (m.d.call s ht k hk).mono ?_
  rintro e w' ⟨v, n, rfl, h0, h1, h2⟩
  obtain ⟨v', rfl⟩ := Int.eq_ofNat_of_zero_le h0
  exact ⟨v', rfl, h1, m.next s hB h2⟩
theorem row_ge {base size k : Nat} {e : TypeId} {v : Value} {l : List Value} (h : w.ownsRow base e size v k l) : ∀ j, v.ownBlock = some j → base ≤ j := by
  intro j hj
  rcases h.2 with ⟨rfl, _⟩ | ⟨g, c, cur, rfl, hb, _⟩
  · cases hj
  · obtain rfl : g = j := by simpa [Value.ownBlock] using hj
    exact hb
theorem row_ty {base size k : Nat} {e : TypeId} {v : Value} {l : List Value} (h : w.ownsRow base e size v k l) : ∀ j, v.ownBlock = some j → ∃ cur, w.heap[j]? = some (.cells cur e (0, 0)) := by
  intro j hj
  rcases h.2 with ⟨rfl, _⟩ | ⟨g, c, cur, rfl, _, hg, _⟩
  · cases hj
  · obtain rfl : g = j := by simpa [Value.ownBlock] using hj
    exact ⟨cur, hg⟩
/-- Two rows of the call's own that hold other things are two rows. -/
theorem rows_apart {base base' size size' k k' : Nat} {v v' : Value} {l l' : List Value} (h : w.ownsRow base 3 size v k l) (h' : w.ownsRow base' 41 size' v' k' l') : v.ownBlock = none ∨ v.ownBlock ≠ v'.ownBlock := by
  cases hv : v.ownBlock with
  | none => exact .inl rfl
  | some j =>
    refine .inr fun e => ?_
    obtain ⟨c, h1⟩ := row_ty h j hv
    obtain ⟨c', h2⟩ := row_ty h' j e.symm
    rw [h1] at h2
    simp at h2
theorem Four.set0 {W : World} {b : Nat} {v0 v1 v2 v3 : Value} (h : Four W b v0 v1 v2 v3) (v : Value) : Four (W.setCell ⟨b, 0, none⟩ v) b v v1 v2 v3 :=
  ⟨cell_set_same (by rw [h.c0]; rfl), (cell_set_other (by omega)).trans h.c1, (cell_set_other (by omega)).trans h.c2, (cell_set_other (by omega)).trans h.c3, fun o => by rw [World.frozen?_setCell]; exact h.fr o⟩
theorem Four.set12 {W : World} {b : Nat} {v0 v1 v2 v3 : Value} (h : Four W b v0 v1 v2 v3) (v v' : Value) : Four ((W.setCell ⟨b, 1, none⟩ v).setCell ⟨b, 2, none⟩ v') b v0 v v' v3 := by
  have h1 : Four (W.setCell ⟨b, 1, none⟩ v) b v0 v v2 v3 := ⟨(cell_set_other (by omega)).trans h.c0, cell_set_same (by rw [h.c1]; rfl), (cell_set_other (by omega)).trans h.c2, (cell_set_other (by omega)).trans h.c3, fun o => by rw [World.frozen?_setCell]; exact h.fr o⟩
  exact ⟨(cell_set_other (by omega)).trans h1.c0, (cell_set_other (by omega)).trans h1.c1, cell_set_same (by rw [h1.c2]; rfl), (cell_set_other (by omega)).trans h1.c3, fun o => by rw [World.frozen?_setCell]; exact h1.fr o⟩
theorem Draws.grow {row : Option Nat} (d : Draws w0 bx bb a xs cap t w) (s : Src w0 bx bb a xs) (hB : bx < B) (hb : bb < B) (hg : w.grownBy w' row) (hr : ∀ j, row = some j → B + 1 ≤ j) : Draws w0 bx bb a xs cap t w' := by
  have h0 := s.h0
  have hc : ∀ b, b < B → b < w.heap.size → w'.heap[b]? = w.heap[b]? := fun b h1 h2 => hg.block b h2 (fun e => by have := hr b e.symm; omega)
  have l1 := lt_of_cell d.x
  have l2 := lt_of_cell d.b
  exact ⟨(World.cell?_of_block (hc _ hB l1)).trans d.x, (World.frozen?_of_block (hc _ hB l1)).trans d.f, (World.cell?_of_block (hc _ hb l2)).trans d.b, Below.grown d.k hg d.k.size (fun j e => by have := hr j e; omega)⟩
theorem Draws.set {b o : Nat} {v : Value} (d : Draws w0 bx bb a xs cap t w) (s : Src w0 bx bb a xs) (hB : bx < b) (hb : bb < b) : Draws w0 bx bb a xs cap t (w.setCell ⟨b, o, none⟩ v) := by
  have h0 := s.h0
  exact ⟨(cell_set_other (by omega)).trans d.x, by rw [World.frozen?_setCell]; exact d.f, (cell_set_other (by omega)).trans d.b, d.k.setCell _ (by show w0.heap.size ≤ b; omega)⟩
/-- A wave more. -/
theorem Making.wave {v' : Value} {x : Int} (m : Making w0 bx bb a xs cap B t w vw ws lo hi vr rs) (s : Src w0 bx bb a xs) (hB : bx < B) (hb : bb < B) (ho : w'.ownsRow (B + 1) 3 1 v' (ws.length + 1) (ws.map (Value.int .i64) ++ [.int .i64 x])) (hg : w.grownBy w' vw.ownBlock) :
    Making w0 bx bb a xs cap B t (w'.setCell ⟨B, 0, none⟩ v') v' (ws ++ [x]) lo hi vr rs := by
  have hr := row_ge m.rw
  have hne : some B ≠ vw.ownBlock := fun e => by have := hr B e.symm; omega
  refine ⟨(m.d.grow s hB hb hg hr).set s hB hb, (m.f.kept hg hne).set0 _, ?_, ?_⟩
  · rw [List.length_append, List.map_append]
    exact ownsRow_setCell_below ho (Nat.lt_succ_self B) _
  · refine ownsRow_setCell_below (m.rr.kept hg ?_) (Nat.lt_succ_self B) _
    rcases rows_apart m.rw m.rr with h | h
    · rw [h]
      exact not_own_none _
    · exact .inr fun e => h e.symm
/-- A reading more. -/
theorem Making.read {v' : Value} {r : Rd} (m : Making w0 bx bb a xs cap B t w vw ws lo hi vr rs) (s : Src w0 bx bb a xs) (hB : bx < B) (hb : bb < B) (hgr : Grew (B + 1) vr (rs.length + [r].length) (rdCells rs ++ rdCells [r]) w v' w') :
    Making w0 bx bb a xs cap B t (w'.setCell ⟨B, 3, none⟩ v') vw ws lo hi v' (rs ++ [r]) := by
  obtain ⟨ho, hg⟩ := hgr
  have hr := row_ge m.rr
  have hne : some B ≠ vr.ownBlock := fun e => by have := hr B e.symm; omega
  refine ⟨(m.d.grow s hB hb hg hr).set s hB hb, (m.f.kept hg hne).set3 _, ?_, ?_⟩
  · exact ownsRow_setCell_below (m.rw.kept hg (rows_apart m.rw m.rr)) (Nat.lt_succ_self B) _
  · rw [List.length_append, rdCells_append]
    exact ownsRow_setCell_below ho (Nat.lt_succ_self B) _
theorem Making.length {x y : Int} (m : Making w0 bx bb a xs cap B t w vw ws lo hi vr rs) (s : Src w0 bx bb a xs) (hB : bx < B) (hb : bb < B) : Making w0 bx bb a xs cap B t ((w.setCell ⟨B, 1, none⟩ (.int .i64 x)).setCell ⟨B, 2, none⟩ (.int .i64 y)) vw ws x y vr rs :=
  ⟨(m.d.set s hB hb).set s hB hb, m.f.set12 _ _, ownsRow_setCell_below (ownsRow_setCell_below m.rw (Nat.lt_succ_self B) _) (Nat.lt_succ_self B) _, ownsRow_setCell_below (ownsRow_setCell_below m.rr (Nat.lt_succ_self B) _) (Nat.lt_succ_self B) _⟩
end
/-- An int appended to a row of the call's own. -/
theorem append_int (w : World) (base : Nat) (ty : TypeId) (v : Value) (n : Nat) (l : List Value) (hown : w.ownsRow base 3 1 v n l) (b : Nat) (x : Int) (hc : w.cell? ⟨b, 0, none⟩ = some (.int .i64 x)) (hn : n ≤ 100) (hbase : base ≤ w.heap.size) :
    ∃ v' w', (Builtin.append_ #[22, 22] ty #[v, .slice (some ⟨b, 0, none⟩) 1 1]).run Try.prog w = .ok v' w' ∧ (w'.ownsRow base 3 1 v' (n + 1) (l ++ [.int .i64 x]) ∧ w.grownBy w' v.ownBlock) := by
  obtain ⟨i0, hi, hz0, hz1, hz2⟩ := info_parts info_int
  obtain ⟨v', w', h1, h2, h3, _⟩ := run_append_own (P := Try.prog) w base 22 ty 3 i0 (.int .i64 0) 1 8 Try.underlying22 hi hz0 hz1 hz2 rfl (by decide) v n l hown ⟨b, 0, none⟩ 1 1 [.int .i64 x] rfl (by
    intro j u hu
    match j, hu with
    | 0, hu => cases hu; exact hc
    | j + 1, hu => simp at hu) (by simp [Value.oneCell']) (by unfold maxLen; omega) (by omega) hbase
  exact ⟨v', w', h1, h2, h3⟩
end Go.Proofs.Ytoidnbpbeblokaa

namespace Go.Proofs.Ytoidnbpbeblokaa
open Go.RowKit Go.Shelf

theorem enters_draw (args : Array Value) (w : World) : (callFunc 82 args).run Try.prog w = .ok (.enter 82 args) w := enters_of Try.func82 (by kernel_rfl) rfl args w
/-- A region of a function's text. -/
def regionAt (n : Nat) : Code → Option Code
  | .region i o d => if i == n then some (.region i o d) else none
  | .seq a c => regionAt n a <|> regionAt n c
  | .block _ b => regionAt n b
  | .loop b => regionAt n b
  | .cond _ a b => regionAt n a <|> regionAt n b
  | .scope b => regionAt n b
  | _ => none
theorem wp_of_code {P : Program} {c c' : Code} {Q : Exit → Act → World → Prop} {a : Act} {w : World} (h : c' = c) (hh : Code.wp P c' Q a w) : Code.wp P c Q a w := h ▸ hh
noncomputable def made_region (n : Nat) : Code := ((Try.f29.body).bind (regionAt n)).getD .skip
set_option maxRecDepth 100000 in
set_option maxHeartbeats 3200000 in
theorem made_reading (w0 : World) (bx bb : Nat) (a : Option Addr) (xs : List Int) (cap B t : Nat) (S : Hid (Src w0 bx bb a xs)) (hx : bx < B) (hb : bb < B) (w8 : World) (vw vr : Value) (ws : List Int) (lo hi : Int) (rs : List Rd) (HM : Hid (Making w0 bx bb a xs cap B t w8 vw ws lo hi vr rs)) (ht : t ≤ 1000) (hl : rs.length + 1 ≤ 100)
    (c off A : Int) (o0 : 0 ≤ off) (o1 : off ≤ 3) (hA0 : 0 ≤ A) (hA1 : A ≤ 19) (x1 x3 x4 x6 x9 x10 x11 x12 x13 x14 x15 x16 x17 x18 x19 x20 x21 x22 x23 x24 x25 x26 x27 x28 x29 x30 x31 x32 x33 x34 x35 x36 x37 x38 x39 x40 x41 x42 x43 x44 x45 x46 x47 x48 x49 x50 x51 x52 x53 x54 x55 x56 x57 x58 x59 x60 x61 x62 x63 x64 x65 x66 x67 x68 x69 x70 x71 x72 x73 x74 x75 x76 x77 : Value) (Q : Exit → Act → World → Prop)
    (hQ : Hid (∀ (v : Nat) (v' : Value) (w' : World) (s61 s62 s63 s64 s65 s66 s67 s68 s69 s70 s71 s72 s73 s74 : Value), (v : Int) < 4 → Making w0 bx bb a xs cap B (t + 1) w' vw ws lo hi v' (rs ++ [(c, A, A + off + (v : Int))]) → Q .normal { tmps := #[.func (.func 82) #[] #[.pointer (some ⟨bx, 0, none⟩), .pointer (some ⟨bb, 0, none⟩)], x1, .pointer (some ⟨B, 0, none⟩), x3, x4, .int .i64 c, x6, .int .i64 off, .int .i64 A, x9, x10, x11, x12, x13, x14, x15, x16, x17, x18, x19, x20, x21, x22, x23, x24, x25, x26, x27, x28, x29, x30, x31, x32, x33, x34, x35, x36, x37, x38, x39, x40, x41, x42, x43, x44, x45, x46, x47, x48, x49, x50, x51, x52, x53, x54, x55, x56, x57, x58, x59, x60, s61, s62, s63, s64, s65, s66, s67, s68, s69, s70, s71, s72, s73, s74, x75, x76, x77], defers := [] } w')) :
    Code.wp Try.prog (made_region 14) Q { tmps := #[.func (.func 82) #[] #[.pointer (some ⟨bx, 0, none⟩), .pointer (some ⟨bb, 0, none⟩)], x1, .pointer (some ⟨B, 0, none⟩), x3, x4, .int .i64 c, x6, .int .i64 off, .int .i64 A, x9, x10, x11, x12, x13, x14, x15, x16, x17, x18, x19, x20, x21, x22, x23, x24, x25, x26, x27, x28, x29, x30, x31, x32, x33, x34, x35, x36, x37, x38, x39, x40, x41, x42, x43, x44, x45, x46, x47, x48, x49, x50, x51, x52, x53, x54, x55, x56, x57, x58, x59, x60, x61, x62, x63, x64, x65, x66, x67, x68, x69, x70, x71, x72, x73, x74, x75, x76, x77], defers := [] } w8 := by
  conv => arg 2; whnf
  have hcf := enters_draw
  have C4 := Lib.hid (fun wr' (kk : Keeps w8 wr') => Making.call (HM.out.keep kk) S.out hx ht 4 (by omega))
  have RDD := Lib.hid (fun x y w => read_any c x y w)
  have AR := Lib.hid (fun w1 (m : Making w0 bx bb a xs cap B (t + 1) w1 vw ws lo hi vr rs) x y => append_reads (w1.alloc (.cells #[.int .i64 c, .int .i64 x, .int .i64 y] 41)) (B + 1) 25 vr rs.length (rdCells rs) (m.rr.alloc _) (some ⟨w1.heap.size, 0, none⟩) 1 [(c, x, y)] (lit_rds w1 _ _ _) (by simpa using hl) (by have := m.f.lt; simp; omega))
  have MR := Lib.hid (fun w1 (m : Making w0 bx bb a xs cap B (t + 1) w1 vw ws lo hi vr rs) v' w' x y (hgr : Grew (B + 1) vr (rs.length + [(c, x, y)].length) (rdCells rs ++ rdCells [(c, x, y)]) (w1.alloc (.cells #[.int .i64 c, .int .i64 x, .int .i64 y] 41)) v' w') => Making.read (m.keep ((Keeps.refl w1).alloc _)) S.out hx hb hgr)
  have F4 := Lib.hid (fun w1 (m : Making w0 bx bb a xs cap B (t + 1) w1 vw ws lo hi vr rs) v' w' x y (hgr : Grew (B + 1) vr (rs.length + [(c, x, y)].length) (rdCells rs ++ rdCells [(c, x, y)]) (w1.alloc (.cells #[.int .i64 c, .int .i64 x, .int .i64 y] 41)) v' w') => Four.kept (m.f.keep ((Keeps.refl w1).alloc _)) hgr.2 (fun e => by have := row_ge m.rr _ e.symm; omega))
  have M := HM.out
  have f0 := M.f.c3
  have ff := M.f.fr 3
  have fl := M.f.lt
  have e3 : IntKind.i64.wrap (A + off) = A + off := IntWalk.i64_in _ (by constructor <;> omega)
  clear M HM hx hb hl ht
  refine wp_region_noPanic ?_
  go_region_law (first
    | (go_simp
       go_at_call 82
       refine (C4.out _ (by repeat' first | exact Keeps.refl w8 | apply Keeps.drew)).mono ?_
       rintro e w9 ⟨v, rfl, hv4, M⟩
       have M9 := Lib.hid M
       have g0 := M.f.c3
       have gf := M.f.fr 3
       have gl := M.f.lt
       have e4 : IntKind.i64.wrap (A + off + (v : Int)) = A + off + (v : Int) := IntWalk.i64_in _ (by constructor <;> omega)
       clear M)
    | (go_simp
       go_at_call 24
       refine (RDD.out _ _ _).mono ?_
       rintro e w10 ⟨rfl, k10⟩
       have M := M9.out.keep (show Keeps w9 w10 from by first | exact k10 | exact k10.undrew)
       have M10 := Lib.hid M
       have AP := Lib.hid (AR.out w10 M A (A + off + (v : Int)))
       replace g0 := M.f.c3
       replace gf := M.f.fr 3
       replace gl := M.f.lt
       clear M k10)
    | (refine step_append_run (by rfl) (.tmp 62) (.tmp 72) 25 (by rfl) vr (.slice (some ⟨w10.heap.size, 0, none⟩) 1 1) (by simp [Act.eval]) (by simp [Act.eval]) _ AP.out ?_
       rintro v5 w11 hgr
       have F5 := F4.out _ M10.out v5 w11 _ _ hgr
       have M6 := Lib.hid (MR.out _ M10.out v5 w11 _ _ hgr)
       have ho5 := hgr.1
       obtain ⟨g5, cap5, rfl⟩ := ownsRow_succ ho5
       have q0 := F5.c3
       have q1 := F5.fr 3
       have q2 := F5.lt
       clear F5 ho5 hgr AP))
  all_goals exact NoPanic.normal <| hQ.out v _ _ _ _ _ _ _ _ _ _ _ _ _ _ _ _ hv4 M6.out
end Go.Proofs.Ytoidnbpbeblokaa

namespace Go.Proofs.Ytoidnbpbeblokaa
open Go.RowKit Go.Shelf

/-- A fringe and a length that is a truth of it are returned. -/
def Made (w0 : World) (e : Ending) (w' : World) : Prop := ∃ (F : Fr) (n : Int), e = .returned (.tuple #[F.v, .int .i64 n]) ∧ TrueIn F n ∧ F.In w' ∧ Keeps w0 w'
/-- After k waves. -/
def WavesAt (w0 : World) (bx bb : Nat) (a : Option Addr) (xs : List Int) (cap B k : Nat) (w : World) : Prop :=
  ∃ vw ws, Making w0 bx bb a xs cap B (k + 1) w vw ws 0 0 (.slice none 0 0) [] ∧ ws.length = k ∧ ws.all vWave = true
/-- After k readings. -/
def ReadsAt (w0 : World) (bx bb : Nat) (a : Option Addr) (xs : List Int) (cap B t : Nat) (vw : Value) (ws : List Int) (lo hi n : Int) (k : Nat) (w : World) : Prop :=
  ∃ vr rs, Making w0 bx bb a xs cap B (t + 3 * k) w vw ws lo hi vr rs ∧ rs.length = k ∧ rs.all (vRead ws.length) = true ∧ (rs.map (rgOf ws)).all (rightB · n) = true
set_option maxRecDepth 100000 in
set_option maxHeartbeats 6400000 in
theorem made_any (w0 : World) (bx bb : Nat) (a : Option Addr) (xs : List Int) (cap : Nat) (w : World) (s : Src w0 bx bb a xs) (hd : Draws w0 bx bb a xs cap 0 w) :
    Calls Try.prog 29 #[.func (.func 82) #[] #[.pointer (some ⟨bx, 0, none⟩), .pointer (some ⟨bb, 0, none⟩)]] w (Made w0) := by
  have hcf := enters_draw
  have hx := lt_of_cell hd.x
  have hb := lt_of_cell hd.b
  have M0 := Lib.hid (show Making w0 bx bb a xs cap w.heap.size 0 (w.alloc (.cells #[.slice none 0 0, .int .i64 0, .int .i64 0, .slice none 0 0] 27)) (.slice none 0 0) [] 0 0 (.slice none 0 0) [] from ⟨hd.keep ((Keeps.refl w).alloc _), Four.boxed _ _ _ _ _ _, World.ownsRow_nil _ _ _ _, World.ownsRow_nil _ _ _ _⟩)
  have S := Lib.hid s
  have MC := Lib.hid (fun (t : Nat) (wr : World) (vw : Value) (ws : List Int) (lo hi : Int) (vr : Value) (rs : List Rd) (m : Making w0 bx bb a xs cap w.heap.size t wr vw ws lo hi vr rs) (ht : t ≤ 1000) (k : Int) (hk : 1 ≤ k) => m.call s hx ht k hk)
  have AI := Lib.hid (fun w1 v n l ho b x hc hn hb => append_int w1 (w.heap.size + 1) 22 v n l ho b x hc hn hb)
  have AR := Lib.hid (fun w1 v n l (ho : w1.ownsRow (w.heap.size + 1) 41 3 v n l) b (r : Rd) hr hn hb => append_reads w1 (w.heap.size + 1) 25 v n l ho (some ⟨b, 0, none⟩) 1 [r] hr hn hb)
  have MW := Lib.hid (fun t wr vw ws lo hi vr rs w' v' x (m : Making w0 bx bb a xs cap w.heap.size t wr vw ws lo hi vr rs) ho hg => m.wave (w' := w') (v' := v') (x := x) s hx hb ho hg)
  have MR := Lib.hid (fun t wr vw ws lo hi vr rs w' v' r (m : Making w0 bx bb a xs cap w.heap.size t wr vw ws lo hi vr rs) hgr => m.read (w' := w') (v' := v') (r := r) s hx hb hgr)
  have RDD := Lib.hid (fun c x y w => read_any c x y w)
  clear hd s
  go_enter Try.func29, Try.ntmps29
  go_wp2_with fail
  refine (MC.out _ _ _ _ _ _ _ _ M0.out (by omega) 4 (by omega)).mono ?_
  rintro e w1 ⟨d, rfl, hd4, M1⟩
  have HM1 := Lib.hid M1
  clear M1 M0
  go_wp2_with fail
  go_loopw [12] (fun i wr => ∃ k : Nat, k ≤ 1 + d ∧ i = .int .i64 k ∧ WavesAt w0 bx bb a xs cap w.heap.size k wr) (fun i _ => (1 + d) - (intOf i).toNat)
  case atStart => exact ⟨0, Nat.zero_le _, rfl, _, _, HM1.out, rfl, rfl⟩
  case round =>
    obtain ⟨k, hk, rfl, vw, ws, M, hl, hv⟩ := hrel
    have HM := Lib.hid M
    by_cases hlt : k < 1 + d
    · have f0 := M.f.c0
      have ff := M.f.fr 0
      have fl := M.f.lt
      have C3 := Lib.hid (fun wr' (kk : Keeps wr wr') => MC.out _ wr' _ _ _ _ _ _ (HM.out.keep kk) (by omega) 59 (by omega))
      have W3 := Lib.hid (show (ws ++ [2 + (0 : Int)]).length = k + 1 ∧ ∀ v : Nat, (v : Int) < 59 → (ws ++ [2 + (v : Int)]).all vWave = true from ⟨by simp [hl], fun v h => by rw [List.all_append, hv]; simp [vWave]; omega⟩)
      have hws : ws.length ≤ 100 := by omega
      clear M hl hv
      go_wp2_with fail
      go_region_law (first
        | (refine step_append_run (by rfl) (.tmp 15) (.tmp 19) 22 (by rfl) vw (.slice (some ⟨w4.heap.size, 0, none⟩) 1 1) (by simp [Act.eval]) (by simp [Act.eval]) _ (AI.out _ _ _ _ (by exact HM4.out.rw.alloc _) _ (2 + (v : Int)) (by simp [go_sem]) hws (by simp; omega)) ?_
           rintro v5 w5 ⟨ho5, hg5⟩
           have F5 := Four.kept (HM4.out.f.keep (by repeat' first | exact Keeps.refl w4 | apply Keeps.alloc | apply Keeps.drew)) hg5 (fun e => by have := row_ge HM4.out.rw _ e.symm; omega)
           have M6 := Lib.hid (MW.out _ _ _ _ _ _ _ _ w5 v5 _ (HM4.out.keep (by repeat' first | exact Keeps.refl w4 | apply Keeps.alloc | apply Keeps.drew)) ho5 hg5)
           obtain ⟨g5, cap5, rfl⟩ := ownsRow_succ ho5
           have q0 := F5.c0
           have q1 := F5.fr 0
           have q2 := F5.lt
           clear F5 ho5 hg5)
        | (go_simp
           go_at_call 82
           refine (C3.out _ (by repeat' first | exact Keeps.refl wr | apply Keeps.drew)).mono ?_
           rintro e w4 ⟨v, rfl, hv59, M4⟩
           have HM4 := Lib.hid M4
           have g0 := M4.f.c0
           have gf := M4.f.fr 0
           have gl := M4.f.lt
           have e2 : IntKind.i64.wrap (2 + (v : Int)) = 2 + (v : Int) := IntWalk.i64_in _ (by constructor <;> omega)
           clear M4))
      all_goals
        clear AI AR MW C3 HM4 q0 q1 q2 g0 gf gl
        go_wp2
        go_roundw
        case rel => exact ⟨k + 1, by omega, by go_num, _, _, M6.out, by simp at W3 ⊢; exact W3.out.1, W3.out.2 v hv59⟩
        case measure => simp [intOf]; omega
    · obtain rfl : k = 1 + d := by omega
      obtain ⟨wa, wc, rfl, hwi⟩ := ints_of_owns M.rw
      have hw1 : 1 ≤ ws.length := by omega
      have hw4 : ws.length ≤ 4 := by omega
      have WV := Lib.hid (fun (c : Nat) (hc : c < ws.length) => show 2 ≤ ws[c]?.getD 0 ∧ ws[c]?.getD 0 ≤ 60 from by
        have h := List.all_eq_true.1 hv _ (List.getElem_mem hc)
        rw [List.getElem?_eq_getElem hc, Option.getD_some]
        simpa [vWave] using h)
      have WS := Lib.hid (show vWaves ws = true from by simp only [vWaves, Bool.and_eq_true, decide_eq_true_eq]; exact ⟨⟨hw1, hw4⟩, hv⟩)
      have SP := Lib.hid (fun x y w => span_any x y w)
      have dk : decide (((1 + d : Nat) : Int) < 1 + (d : Int)) = false := by simp
      clear hwi hv M hl hk
      go_wp2_with fail
      refine (MC.out _ _ _ _ _ _ _ _ HM.out (by omega) 2001 (by omega)).mono ?_
      rintro e w2 ⟨n, rfl, hn, M⟩
      replace HM := Lib.hid M
      clear M
      go_wp2_with fail
      refine (MC.out _ _ _ _ _ _ _ _ HM.out (by omega) 200 (by omega)).mono ?_
      rintro e w3 ⟨d1, rfl, hd1, M⟩
      replace HM := Lib.hid M
      clear M
      go_wp2_with fail
      refine (MC.out _ _ _ _ _ _ _ _ HM.out (by omega) 200 (by omega)).mono ?_
      rintro e w4 ⟨d2, rfl, hd2, M⟩
      replace HM := Lib.hid M
      clear M
      go_wp2_with fail
      obtain ⟨lo, hlo, lo0, lo1, lo2⟩ : ∃ lo : Int, max 0 ((n : Int) - (d1 : Int)) = lo ∧ 0 ≤ lo ∧ lo ≤ n ∧ n - lo ≤ 199 := ⟨_, rfl, by omega, by omega, by omega⟩
      obtain ⟨hi, hhi, hi0, hi1, hi2⟩ : ∃ hi : Int, min 2000 ((n : Int) + (d2 : Int)) = hi ∧ n ≤ hi ∧ hi ≤ 2000 ∧ hi - n ≤ 199 := ⟨_, rfl, by omega, by omega, by omega⟩
      rw [hlo, hhi]
      clear hlo hhi
      refine (SP.out _ _ _).mono ?_
      rintro e w5 ⟨rfl, k5⟩
      have M := HM.out.keep k5
      have f1 := M.f.c1
      have f2 := M.f.c2
      have fr1 := M.f.fr 1
      have fr2 := M.f.fr 2
      have fl := M.f.lt
      replace HM := Lib.hid (M.length (x := lo) (y := hi) S.out hx hb)
      clear M k5
      go_wp2_with fail
      refine (MC.out _ _ _ _ _ _ _ _ HM.out (by omega) 7 (by omega)).mono ?_
      rintro e w6 ⟨q, rfl, hq, M⟩
      replace HM := Lib.hid M
      clear M f1 f2 fr1 fr2 fl hd1 hd2
      obtain ⟨T, hT, hTl⟩ : ∃ T, 1 + d + 1 + 1 + 1 + 1 + 1 = T ∧ T ≤ 20 := ⟨_, rfl, by omega⟩
      rw [hT] at HM
      clear hT
      go_wp2_with fail
      go_loopw [40] (fun i wr => ∃ k : Nat, k ≤ q ∧ i = .int .i64 k ∧ ReadsAt w0 bx bb a xs cap w.heap.size T (.slice wa ws.length wc) ws lo hi n k wr) (fun i _ => q - (intOf i).toNat)
      case atStart => exact ⟨0, Nat.zero_le _, rfl, _, _, HM.out, rfl, rfl, rfl⟩
      case round =>
        obtain ⟨k, hk, rfl, vr, rs, M, hl2, hv2, hr2⟩ := hrel
        replace HM := Lib.hid M
        by_cases hlt : k < q
        · have f0 := M.f.c0
          have ff := M.f.fr 0
          have fl := M.f.lt
          clear M
          go_wp2_with fail
          refine (MC.out _ _ _ _ _ _ _ _ HM.out (by omega) (ws.length : Int) (by omega)).mono ?_
          rintro e w7 ⟨c, rfl, hc, M⟩
          obtain ⟨a', c', e', hwi⟩ := ints_of_owns M.rw
          cases e'
          obtain ⟨bw, ow, rfl, hcs⟩ := hwi (by intro e; rw [e] at hw1; simp at hw1)
          have hc' : c < ws.length := by omega
          have hcc := hcs c hc'
          have hxb := WV.out c hc'
          obtain ⟨x, hx'⟩ : ∃ x, ws[c]?.getD 0 = x := ⟨_, rfl⟩
          rw [hx'] at hcc hxb
          have LP := Lib.hid (law_part x n w7 hxb.1 hxb.2 (by omega) (by omega))
          obtain ⟨p0, p1⟩ := partI_bd (wv := x) (n := (n : Int)) (by omega)
          unfold partI at p0 p1
          obtain ⟨p, hp⟩ := Int.eq_ofNat_of_zero_le p0
          rw [hp] at LP p1
          have HP := Lib.hid hp
          have HX := Lib.hid hx'
          replace f0 := M.f.c0
          replace ff := M.f.fr 0
          replace fl := M.f.lt
          have flw := lt_of_cell hcc
          replace HM := Lib.hid M
          clear hp hx' p0 hcs hwi M hc'
          go_wp2_with fail
          refine LP.out.mono ?_
          rintro e w8 ⟨rfl, rfl⟩
          go_wp2_with fail
          refine (MC.out _ _ _ _ _ _ _ _ HM.out (by omega) 4 (by omega)).mono ?_
          rintro e w8 ⟨off, rfl, ho, M⟩
          replace HM := Lib.hid M
          have f2 := M.f.c3
          have ff2 := M.f.fr 3
          have fl2 := M.f.lt
          clear M LP f0 ff fl flw hcc
          go_wp2_with fail
          have RR := Lib.hid (fun (d : Int) (d0 : 0 ≤ d) (d3 : d ≤ 3) => read_right (x := x) (n := (n : Int)) (p := (p : Int)) (off := (off : Int)) (d := d) HP.out (by omega) p1 (by omega) (by omega) d0 d3 rfl)
          obtain ⟨A, hA, hA0, hA1⟩ : ∃ A : Int, ((p : Int) - (off : Int) + 20) % 20 = A ∧ 0 ≤ A ∧ A ≤ 19 := ⟨_, rfl, by omega, by omega⟩
          rw [hA] at RR ⊢
          have W3 := Lib.hid (show ∀ v : Nat, (v : Int) < 4 → (rs ++ [((c : Int), A, A + (off : Int) + (v : Int))]).length = k + 1 ∧ (rs ++ [((c : Int), A, A + (off : Int) + (v : Int))]).all (vRead ws.length) = true ∧ ((rs ++ [((c : Int), A, A + (off : Int) + (v : Int))]).map (rgOf ws)).all (rightB · (n : Int)) = true from fun v hv => by
            obtain ⟨r1, r2⟩ := RR.out v (by omega) (by omega)
            refine ⟨by simp [hl2], ?_, ?_⟩
            · rw [List.all_append, hv2, Bool.true_and, List.all_cons, List.all_nil, Bool.and_true, vRead, r1, Bool.and_true]
              exact decide_eq_true ⟨by omega, by omega⟩
            · rw [List.map_append, List.all_append, hr2, Bool.true_and, List.map_cons, List.map_nil, List.all_cons, List.all_nil, Bool.and_true, rgOf, Int.toNat_natCast, HX.out]
              exact r2)
          clear hA MC MW MR AI AR RDD RR HP HX WV WS SP f2 ff2 fl2
          refine wp_of_code (c' := made_region 14) (by kernel_rfl) ?_
          refine made_reading w0 bx bb a xs cap w.heap.size _ S hx hb w8 _ vr ws lo hi rs HM (by omega) (by omega) c off A (by omega) (by omega) hA0 hA1 _ _ _ _ _ _ _ _ _ _ _ _ _ _ _ _ _ _ _ _ _ _ _ _ _ _ _ _ _ _ _ _ _ _ _ _ _ _ _ _ _ _ _ _ _ _ _ _ _ _ _ _ _ _ _ _ _ _ _ _ _ _ _ _ _ _ _ _ _ _ _ _ _ _ (Lib.hid fun v v' w' s61 s62 s63 s64 s65 s66 s67 s68 s69 s70 s71 s72 s73 s74 hv M6 => ?_)
          have HM6 := Lib.hid M6
          clear M6 HM
          go_wp2
          go_roundw
          case rel => exact ⟨k + 1, by omega, by go_num, _, _, HM6.out, W3.out v hv⟩
          case measure => simp [intOf]; omega
        · obtain rfl : k = q := by omega
          obtain ⟨a', c', e', hwi⟩ := ints_of_owns M.rw
          cases e'
          obtain ⟨ra, rc, rfl, hrd, hrb⟩ := Rds.of_owns M.rr
          have hwb : ∀ b o, wa = some ⟨b, o, none⟩ → w.heap.size + 1 ≤ b := by
            intro b o e
            subst e
            exact row_ge M.rw _ rfl
          have HW := Lib.hid hwi
          have HR := Lib.hid hrd
          have HWB := Lib.hid hwb
          have HRB := Lib.hid hrb
          have hk0 := M.d.k
          have g0 := M.f.c0
          have g1 := M.f.c1
          have g2 := M.f.c2
          have g3 := M.f.c3
          have h0 := M.f.fr 0
          have h1 := M.f.fr 1
          have h2 := M.f.fr 2
          have h3 := M.f.fr 3
          have fl := M.f.lt
          have HF := Lib.hid M.f
          have V := Lib.hid (And.intro hv2 hr2)
          have hs0 := S.out.h0
          clear M HM hwi hrd hrb hwb hv2 hr2 hlt hk
          subst hl2
          go_wp2
          obtain ⟨r0, r1, r2, r3, ro⟩ := four_set (X := wr) (b := w.heap.size) (v0 := .slice wa ws.length wc) (v1 := .int .i64 lo) (v2 := .int .i64 hi) (v3 := .slice ra rs.length rc) (by rw [g0]; rfl) (by rw [g1]; rfl) (by rw [g2]; rfl) (by rw [g3]; rfl)
          have kZ := (((hk0.setCell (p := ⟨w.heap.size, 0, none⟩) (.slice wa ws.length wc) (by simp; omega)).setCell (p := ⟨w.heap.size, 1, none⟩) (.int .i64 lo) (by simp; omega)).setCell (p := ⟨w.heap.size, 2, none⟩) (.int .i64 hi) (by simp; omega)).setCell (p := ⟨w.heap.size, 3, none⟩) (.slice ra rs.length rc) (by simp; omega)
          have hrZ := HR.out.of_eq (w' := (((wr.setCell ⟨w.heap.size, 0, none⟩ (.slice wa ws.length wc)).setCell ⟨w.heap.size, 1, none⟩ (.int .i64 lo)).setCell ⟨w.heap.size, 2, none⟩ (.int .i64 hi)).setCell ⟨w.heap.size, 3, none⟩ (.slice ra rs.length rc)) (fun b o e o' => ro b o' (by have := HRB.out b o e; omega))
          have hiZ : Ints ((((wr.setCell ⟨w.heap.size, 0, none⟩ (.slice wa ws.length wc)).setCell ⟨w.heap.size, 1, none⟩ (.int .i64 lo)).setCell ⟨w.heap.size, 2, none⟩ (.int .i64 hi)).setCell ⟨w.heap.size, 3, none⟩ (.slice ra rs.length rc)) wa ws := by
            intro hne
            obtain ⟨b, o, e, hc⟩ := HW.out hne
            exact ⟨b, o, e, fun i hi => (ro b _ (by have := HWB.out b o e; omega)).trans (hc i hi)⟩
          refine bodyPost_ret (v := .tuple #[Fr.v ⟨wa, wc, ws, lo, hi, ra, rc, rs⟩, .int .i64 n]) ?_ rfl ⟨⟨wa, wc, ws, lo, hi, ra, rc, rs⟩, n, rfl, ⟨?_, lo1, hi0, V.out.2⟩, ⟨hiZ, hrZ, by show ws.length ≤ maxLen; unfold maxLen; omega, by show rs.length ≤ maxLen; unfold maxLen; omega⟩, kZ⟩
          · simp [results, Try.results29, go_sem, r0, r1, r2, r3]
          · show (vWaves ws && vLen lo hi && vReads rs ws.length) = true
            rw [WS.out, Bool.true_and, Bool.and_eq_true]
            refine ⟨decide_eq_true ⟨lo0, by omega, hi1, by omega⟩, ?_⟩
            rw [vReads, V.out.1, Bool.and_true]
            exact decide_eq_true (by omega)
end Go.Proofs.Ytoidnbpbeblokaa
