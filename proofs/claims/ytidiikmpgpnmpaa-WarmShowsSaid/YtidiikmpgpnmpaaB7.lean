/-
  WARM: the pairs of a block, as a list; those of which all readings of a list can be right.
-/
import Derived.RangeFuncBox
import Derived.Test.YtidiikmpgpnmpaaB2
import Derived.Test.YtidiikmpgpnmpaaB4
import Derived.Test.YtidiikmpgpnmpaaB6
namespace Go.Proofs.Ytidiikmpgpnmpaa
open Go.RowKit Go.Shelf Go.Maps
attribute [local go_sem] Oper.semAt_some

theorem mem_rowTo {x clo : Int} {j : Nat} {p : Pr} : p ∈ rowTo x clo j ↔ p.1.1 = x ∧ clo ≤ p.1.2 ∧ p.1.2 < clo + j := by
  obtain ⟨⟨a, b⟩, h1, h2, h3, h4⟩ := p
  dsimp only at *
  simp only [rowTo, List.mem_filterMap, List.mem_range, mkP]
  constructor
  · rintro ⟨k, hk, e⟩
    split at e
    · cases e; exact ⟨rfl, by omega, by omega⟩
    · cases e
  · rintro ⟨rfl, h5, h6⟩
    refine ⟨(b - clo).toNat, by omega, ?_⟩
    have e : clo + ((b - clo).toNat : Int) = b := by omega
    rw [dif_pos (by rw [e]; exact ⟨h1, h2, h3, h4⟩)]
    simp only [e]
theorem mem_rowsTo {llo clo : Int} {nc i : Nat} {p : Pr} : p ∈ rowsTo llo clo nc i ↔ (llo ≤ p.1.1 ∧ p.1.1 < llo + i) ∧ clo ≤ p.1.2 ∧ p.1.2 < clo + nc := by
  simp only [rowsTo, List.mem_flatMap, List.mem_range, mem_rowTo]
  constructor
  · rintro ⟨k, hk, e1, e2, e3⟩; exact ⟨⟨by omega, by omega⟩, e2, e3⟩
  · rintro ⟨⟨e1, e2⟩, e3, e4⟩; exact ⟨(p.1.1 - llo).toNat, by omega, by omega, e3, e4⟩
theorem rowTo_nodup (x clo : Int) (j : Nat) : (rowTo x clo j).Nodup := by
  induction j with
  | zero => exact List.nodup_nil
  | succ j ih =>
    have e : rowTo x clo (j + 1) = rowTo x clo j ++ (mkP x (clo + (j : Int))).toList := by
      simp only [rowTo, List.range_succ, List.filterMap_append]
      cases h : mkP x (clo + (j : Int)) <;> simp [h]
    rw [e, List.nodup_append]
    refine ⟨ih, by cases mkP x (clo + (j : Int)) <;> simp, ?_⟩
    intro a ha c hc e2
    subst e2
    have h1 := (mem_rowTo.1 ha).2.2
    simp only [mkP] at hc
    split at hc
    · simp at hc; subst hc; dsimp only at h1; omega
    · simp at hc
theorem rowsTo_nodup (llo clo : Int) (nc i : Nat) : (rowsTo llo clo nc i).Nodup := by
  induction i with
  | zero => exact List.nodup_nil
  | succ i ih =>
    rw [rowsTo_succ, List.nodup_append]
    refine ⟨ih, rowTo_nodup _ _ _, ?_⟩
    intro a ha c hc e2
    subst e2
    have h1 := (mem_rowsTo.1 ha).1.2
    have h2 := (mem_rowTo.1 hc).1
    omega
theorem Wm.all_nodup (B : Wm) : B.all.Nodup := rowsTo_nodup _ _ _ _
theorem Wm.mem_all {B : Wm} (hL : B.Lim) {p : Pr} : p ∈ B.all ↔ (B.llo ≤ p.1.1 ∧ p.1.1 ≤ B.lhi) ∧ B.clo ≤ p.1.2 ∧ p.1.2 ≤ B.chi := by
  obtain ⟨m1, m2, l1, l2, l3, l4, c1, c2, c3, c4⟩ := hL
  unfold Wm.all
  rw [mem_rowsTo]
  omega
theorem rowTo_len (x clo : Int) (j : Nat) : (rowTo x clo j).length ≤ j := by
  have := List.length_filterMap_le (fun k : Nat => mkP x (clo + (k : Int))) (List.range j)
  simpa [rowTo] using this
theorem rowsTo_len (llo clo : Int) (nc i : Nat) : (rowsTo llo clo nc i).length ≤ i * nc := by
  induction i with
  | zero => simp [rowsTo]
  | succ i ih =>
    rw [rowsTo_succ, List.length_append, Nat.succ_mul]
    have := rowTo_len (llo + (i : Int)) clo nc
    omega
theorem Wm.all_len {B : Wm} (hL : B.Lim) : B.all.length ≤ 100 := by
  obtain ⟨m1, m2, l1, l2, l3, l4, c1, c2, c3, c4⟩ := hL
  refine Nat.le_trans (rowsTo_len _ _ _ _) ?_
  have h1 : (B.chi + 1 - B.clo).toNat ≤ 4 := by omega
  have h2 : (B.lhi + 1 - B.llo).toNat ≤ 25 := by omega
  exact Nat.mul_le_mul h2 h1
/-- Can all these readings be right with a pair? -/
def okAll (m : Int) (rs : List Wr) (p : Pr) : Bool := rs.all (canB m p.1)
/-- The pairs of a block of which all these readings can be right. -/
def Wm.leftBy (B : Wm) (rs : List Wr) : List Pr := B.all.filter (okAll B.mark rs)
/-- Its pairs in truths. -/
def Wm.truths (B : Wm) : List Pr := B.leftBy B.rs
def lfP (ok : Pr → Bool) (ys : List Pr) : List Pr := ys.foldl (fun l p => if ok p then addP l p else l) []
theorem lfP_snoc (ok : Pr → Bool) (ys : List Pr) (x : Pr) : lfP ok (ys ++ [x]) = if ok x then addP (lfP ok ys) x else lfP ok ys := by simp [lfP]
theorem addP_len (l : List Pr) (p : Pr) : (addP l p).length ≤ l.length + 1 := by unfold addP; split <;> simp
theorem snoc_ind {α : Type} {P : List α → Prop} (l : List α) (h0 : P []) (h1 : ∀ ts x, P ts → P (ts ++ [x])) : P l := by
  rw [← List.reverse_reverse l]
  induction l.reverse with
  | nil => exact h0
  | cons a r ih => rw [List.reverse_cons]; exact h1 _ _ ih
theorem lfP_len (ok : Pr → Bool) (ys : List Pr) : (lfP ok ys).length ≤ ys.length := by
  induction ys using snoc_ind with
  | h0 => simp [lfP]
  | h1 ts x ih =>
    rw [lfP_snoc]
    have := addP_len (lfP ok ts) x
    split <;> simp <;> omega
theorem lfP_eq (ok : Pr → Bool) (ys : List Pr) (h : ys.Nodup) : lfP ok ys = ys.filter ok := by
  induction ys using snoc_ind with
  | h0 => rfl
  | h1 ts x ih =>
    rw [List.nodup_append] at h
    have hx : x ∉ ts.filter ok := fun hm => h.2.2 x (List.mem_filter.1 hm).1 x (by simp) rfl
    rw [lfP_snoc, ih h.1, List.filter_append]
    cases e : ok x
    · simp [e]
    · simp [e, addP, hx]
end Go.Proofs.Ytidiikmpgpnmpaa
