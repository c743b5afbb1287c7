/-
  WARM: the pairs of a block, as a list; those of which all readings of a list can be right.
  WARM: left: the pairs of which all readings of a list can be right, as a map.
  WARM: truths; each, shown, heldAt; howLong, howMuch; the span of ends.
-/
import Derived.RangeFuncBox
import Derived.Test.YtmhpgjlegajpeaaB2
import Derived.Test.YtmhpgjlegajpeaaB3
import Derived.Scope
import Derived.WalkMore
import Derived.Test.YtmhpgjlegajpeaaR
import Derived.Deep.RegionWith
namespace Go.Proofs.Ytmhpgjlegajpeaa
open Go.RowKit Go.Shelf Go.Maps
attribute [local go_sem] Oper.semAt_some

theorem mem_rowTo {x clo : Int} {j : Nat} {p : Pr} : p ∈ rowTo x clo j ↔ p.1.1 = x ∧ clo ≤ p.1.2 ∧ p.1.2 < clo + j := by
  obtain ⟨⟨a, b⟩, h1, h2, h3, h4⟩ := p
  dsimp only at *
  simp only [rowTo, List.mem_filterMap, List.mem_range, mkP]
  constructor
  · rintro ⟨k, hk, e⟩
    split at e
    · cases e; exact ⟨rfl, by omega, by omega⟩
    · cases e
  · rintro ⟨rfl, h5, h6⟩
    refine ⟨(b - clo).toNat, by omega, ?_⟩
    have e : clo + ((b - clo).toNat : Int) = b := by omega
    rw [dif_pos (by rw [e]; exact ⟨h1, h2, h3, h4⟩)]
    simp only [e]
theorem mem_rowsTo {llo clo : Int} {nc i : Nat} {p : Pr} : p ∈ rowsTo llo clo nc i ↔ (llo ≤ p.1.1 ∧ p.1.1 < llo + i) ∧ clo ≤ p.1.2 ∧ p.1.2 < clo + nc := by
  simp only [rowsTo, List.mem_flatMap, List.mem_range, mem_rowTo]
  constructor
  · rintro ⟨k, hk, e1, e2, e3⟩; exact ⟨⟨by omega, by omega⟩, e2, e3⟩
  · rintro ⟨⟨e1, e2⟩, e3, e4⟩; exact ⟨(p.1.1 - llo).toNat, by omega, by omega, e3, e4⟩
theorem rowTo_nodup (x clo : Int) (j : Nat) : (rowTo x clo j).Nodup := by
  induction j with
  | zero => exact List.nodup_nil
  | succ j ih =>
    have e : rowTo x clo (j + 1) = rowTo x clo j ++ (mkP x (clo + (j : Int))).toList := by
      simp only [rowTo, List.range_succ, List.filterMap_append]
      cases h : mkP x (clo + (j : Int)) <;> simp [h]
    rw [e, List.nodup_append]
    refine ⟨ih, by cases mkP x (clo + (j : Int)) <;> simp, ?_⟩
    intro a ha c hc e2
    subst e2
    have h1 := (mem_rowTo.1 ha).2.2
    simp only [mkP] at hc
    split at hc
    · simp at hc; subst hc; dsimp only at h1; omega
    · simp at hc
theorem rowsTo_nodup (llo clo : Int) (nc i : Nat) : (rowsTo llo clo nc i).Nodup := by
  induction i with
  | zero => exact List.nodup_nil
  | succ i ih =>
    rw [rowsTo_succ, List.nodup_append]
    refine ⟨ih, rowTo_nodup _ _ _, ?_⟩
    intro a ha c hc e2
    subst e2
    have h1 := (mem_rowsTo.1 ha).1.2
    have h2 := (mem_rowTo.1 hc).1
    omega
theorem Wm.all_nodup (B : Wm) : B.all.Nodup := rowsTo_nodup _ _ _ _
theorem Wm.mem_all {B : Wm} (hL : B.Lim) {p : Pr} : p ∈ B.all ↔ (B.llo ≤ p.1.1 ∧ p.1.1 ≤ B.lhi) ∧ B.clo ≤ p.1.2 ∧ p.1.2 ≤ B.chi := by
  obtain ⟨m1, m2, l1, l2, l3, l4, c1, c2, c3, c4⟩ := hL
  unfold Wm.all
  rw [mem_rowsTo]
  omega
theorem rowTo_len (x clo : Int) (j : Nat) : (rowTo x clo j).length ≤ j := by
  have := List.length_filterMap_le (fun k : Nat => mkP x (clo + (k : Int))) (List.range j)
  simpa [rowTo] using this
theorem rowsTo_len (llo clo : Int) (nc i : Nat) : (rowsTo llo clo nc i).length ≤ i * nc := by
  induction i with
  | zero => simp [rowsTo]
  | succ i ih =>
    rw [rowsTo_succ, List.length_append, Nat.succ_mul]
    have := rowTo_len (llo + (i : Int)) clo nc
    omega
theorem Wm.all_len {B : Wm} (hL : B.Lim) : B.all.length ≤ 100 := by
  obtain ⟨m1, m2, l1, l2, l3, l4, c1, c2, c3, c4⟩ := hL
  refine Nat.le_trans (rowsTo_len _ _ _ _) ?_
  have h1 : (B.chi + 1 - B.clo).toNat ≤ 4 := by omega
  have h2 : (B.lhi + 1 - B.llo).toNat ≤ 25 := by omega
  exact Nat.mul_le_mul h2 h1
/-- Can all these readings be right with a pair? -/
def okAll (m : Int) (rs : List Wr) (p : Pr) : Bool := rs.all (canB m p.1)
/-- The pairs of a block of which all these readings can be right. -/
def Wm.leftBy (B : Wm) (rs : List Wr) : List Pr := B.all.filter (okAll B.mark rs)
/-- Its pairs in truths. -/
def Wm.truths (B : Wm) : List Pr := B.leftBy B.rs
def lfP (ok : Pr → Bool) (ys : List Pr) : List Pr := ys.foldl (fun l p => if ok p then addP l p else l) []
theorem lfP_snoc (ok : Pr → Bool) (ys : List Pr) (x : Pr) : lfP ok (ys ++ [x]) = if ok x then addP (lfP ok ys) x else lfP ok ys := by simp [lfP]
theorem addP_len (l : List Pr) (p : Pr) : (addP l p).length ≤ l.length + 1 := by unfold addP; split <;> simp
theorem snoc_ind {α : Type} {P : List α → Prop} (l : List α) (h0 : P []) (h1 : ∀ ts x, P ts → P (ts ++ [x])) : P l := by
  rw [← List.reverse_reverse l]
  induction l.reverse with
  | nil => exact h0
  | cons a r ih => rw [List.reverse_cons]; exact h1 _ _ ih
theorem lfP_len (ok : Pr → Bool) (ys : List Pr) : (lfP ok ys).length ≤ ys.length := by
  induction ys using snoc_ind with
  | h0 => simp [lfP]
  | h1 ts x ih =>
    rw [lfP_snoc]
    have := addP_len (lfP ok ts) x
    split <;> simp <;> omega
theorem lfP_eq (ok : Pr → Bool) (ys : List Pr) (h : ys.Nodup) : lfP ok ys = ys.filter ok := by
  induction ys using snoc_ind with
  | h0 => rfl
  | h1 ts x ih =>
    rw [List.nodup_append] at h
    have hx : x ∉ ts.filter ok := fun hm => h.2.2 x (List.mem_filter.1 hm).1 x (by simp) rfl
    rw [lfP_snoc, ih h.1, List.filter_append]
    cases e : ok x
    · simp [e]
    · simp [e, addP, hx]
end Go.Proofs.Ytmhpgjlegajpeaa

namespace Go.Proofs.Ytmhpgjlegajpeaa
open Go.RowKit Go.Shelf Go.Maps
attribute [local go_sem] Oper.semAt_some

/-- Three cells of a block of the call's own hold a pair. -/
structure PrAt (W : World) (b : Nat) (m : Int) (p : Pr) : Prop where
  c0 : W.cell? ⟨b, 0, none⟩ = some (.int .i64 m)
  c1 : W.cell? ⟨b, 1, none⟩ = some (.int .i64 p.1.1)
  c2 : W.cell? ⟨b, 2, none⟩ = some (.int .i64 p.1.2)
theorem PrAt.keep {W W' : World} {b : Nat} {m : Int} {p : Pr} (h : PrAt W b m p) (k : Keeps W W') : PrAt W' b m p := ⟨k.cell h.c0, k.cell h.c1, k.cell h.c2⟩
theorem PrAt.own {β : Type} (B b : Nat) (m : Int) (p : Pr) : OwnFrom B (fun (_ : β) W => PrAt W b m p) := Own.from (fun _ _ _ _ hs hg hr => ⟨cell_kept hs.c0 hg hr, cell_kept hs.c1 hg hr, cell_kept hs.c2 hg hr⟩) _
theorem Keeps.grown {w w' : World} (k : Keeps w w') (row : Option Nat) : w.grownBy w' row := ⟨k.os, k.tape, k.output, k.size, fun _ hi _ => k.heap hi⟩
theorem others_of {A B : World} (k : Keeps A B) : KeepsOthers A B := ⟨k.size, fun _ _ hi _ => (k.heap (Array.getElem?_eq_some_iff.1 hi).1).trans hi⟩
theorem KeepX.of_grown {W W' : World} {b : Nat} (h : W.grownBy W' (some b)) : KeepX (fun k => k = b) W W' :=
  ⟨h.size, fun k _ hk _ hx => (h.block k (Array.getElem?_eq_some_iff.1 hk).1 (fun e => hx (Option.some.inj e))).trans hk⟩
theorem okAll_yes {m : Int} {rs : List Wr} {p : Pr} (h : ∀ j, j < rs.length → canB m p.1 (rs[j]?.getD (0, 0, 0, 0)) = true) : okAll m rs p = true := by
  rw [okAll, List.all_eq_true]
  intro x hx
  obtain ⟨i, hi, rfl⟩ := List.getElem_of_mem hx
  have := h i hi
  rwa [List.getElem?_eq_getElem hi] at this
theorem okAll_no {m : Int} {rs : List Wr} {p : Pr} {k : Nat} (hk : k < rs.length) (h : canB m p.1 (rs[k]?.getD (0, 0, 0, 0)) = false) : okAll m rs p = false := by
  rw [okAll, List.all_eq_false]
  refine ⟨rs[k], List.getElem_mem hk, ?_⟩
  rw [List.getElem?_eq_getElem hk, Option.getD_some] at h
  simp [h]
theorem canBe_pr (m : Int) (p1 p2 : Int) (r : Wr) (w : World) (m1 : 1 ≤ m) (m2 : m ≤ 100) (hp : -1000 ≤ p1 ∧ p1 ≤ 1000 ∧ 0 ≤ p2 ∧ p2 ≤ 20) (hr : okW r) :
    Calls Try.prog 104 #[rdV r, .agg #[.int .i64 m, .int .i64 p1, .int .i64 p2]] w (RetB (canB m (p1, p2) r) w) :=
  canBe_any m (p1, p2) r w ⟨m1, m2, hp⟩ hr

set_option maxHeartbeats 3200000 in
theorem left_any (B : Wm) (hL : B.Lim) (rs : List Wr) (a : Option Addr) (cap : Nat) (w : World) (hw : ∀ r ∈ rs, okW r) (hl : rs.length ≤ 5) (hR : Rgs w a rs) (hRb : ∀ b o, a = some ⟨b, o, none⟩ → b < w.heap.size) :
    Calls Try.prog 76 #[B.v, .slice a rs.length cap] w fun e w' => ∃ b, e = .returned (.map (some b)) ∧ Pset w' b B.mark (B.leftBy rs) ∧ Keeps w w' ∧ w.heap.size ≤ b := by
  have PA := Lib.hid (fun w1 => pairs_any B w1)
  have ST := Lib.hid (fun b X w1 hx hB => pairs_stops 3 (by omega) b X B hL w1 hx hB)
  have HLE := Lib.hid (show B.leftBy rs = lfP (okAll B.mark rs) B.all from (lfP_eq _ _ B.all_nodup).symm)
  have hal := B.all_len hL
  obtain ⟨ys, hys⟩ : ∃ ys, B.all = ys := ⟨_, rfl⟩
  rw [hys] at ST HLE hal
  have hm1 := hL.m1
  have hm2 := hL.m2
  have HW := Lib.hid hw
  have HR := Lib.hid hR
  have HRb := Lib.hid hRb
  obtain ⟨mark, llo, lhi, clo, chi, ra, rc, rs0⟩ := B
  dsimp only [Wm.v] at *
  clear hys hL hw hR hRb
  have hfw : ∀ f, Fence.wide.fn f := fun _ => trivial
  have hmm := @run_makeMap Try.prog
  refine (callsIn_wide (n := 4)).1 ?_
  refine callsIn_of_wp_marks Try.func76 rfl trivial ?_ rfl
  simp only [Try.ntmps76, List.size_toArray, List.length_cons, List.length_nil, Nat.reduceAdd, Nat.reduceSub, Array.replicate_succ, Array.replicate_zero, List.push_toArray, List.append_toArray, List.nil_append, List.cons_append]
  refine (wpIn_wide (n := 4)).2 ?_
  go_wp2_with fail
  go_step3
  go_wp2_with fail
  go_step3
  go_wp2_with fail
  refine (PA.out _).mono ?_
  rintro e w1 ⟨rfl, k1, hB⟩
  go_wp2_with fail
  refine (wpIn_wide (n := 4)).1 ?_
  obtain ⟨W0, hW0⟩ : ∃ W0, ((((w.alloc (.cells #[.int .i64 mark, .int .i64 llo, .int .i64 lhi, .int .i64 clo, .int .i64 chi, .slice ra rs0.length rc] 26)).alloc (.cells #[.slice a rs.length cap] 96)).alloc (.map #[] 0)).alloc (.cells #[.map (some (w.heap.size + 1 + 1))] 80)) = W0 := ⟨_, rfl⟩
  have k0 : Keeps w W0 := by rw [← hW0]; exact ((((Keeps.refl _).alloc _).alloc _).alloc _).alloc _
  have hs0 : W0.heap.size = w.heap.size + 1 + 1 + 1 + 1 := by rw [← hW0]; simp
  have hp0 : Pset W0 (w.heap.size + 1 + 1) mark [] := by
    rw [← hW0]
    have h := Pset.made ((w.alloc (.cells #[.int .i64 mark, .int .i64 llo, .int .i64 lhi, .int .i64 clo, .int .i64 chi, .slice ra rs0.length rc] 26)).alloc (.cells #[.slice a rs.length cap] 96)) mark
    rw [World.size_alloc, World.size_alloc] at h
    exact h.keep ((Keeps.refl _).alloc _)
  have hv0 : W0.cell? ⟨w.heap.size + 1 + 1 + 1, 0, none⟩ = some (.map (some (w.heap.size + 1 + 1))) := by rw [← hW0]; simp [go_sem]
  have hr0 : W0.cell? ⟨w.heap.size + 1, 0, none⟩ = some (.slice a rs.length cap) := by rw [← hW0]; simp [go_sem]
  rw [hW0] at k1 hB
  clear hW0
  rw [hs0] at hB
  have k2 := k0.trans k1
  have hs1 := k1.size
  have hI : OwnFrom w1.heap.size (fun (pre : List Pr) W => (Pset W (w.heap.size + 1 + 1) mark (lfP (okAll mark rs) pre) ∧ W.cell? ⟨w.heap.size + 1 + 1 + 1, 0, none⟩ = some (.map (some (w.heap.size + 1 + 1))) ∧ W.cell? ⟨w.heap.size + 1, 0, none⟩ = some (.slice a rs.length cap)) ∧ Keeps w W) :=
    OwnFrom.and (fun s A C row hs hg hr => ⟨Pset.kept hs.1 hg (fun e => by have := (hr _ e.symm).1; omega), cell_kept hs.2.1 hg (fun r e => (hr r e).2), cell_kept hs.2.2 hg (fun r e => (hr r e).2)⟩) (ownFrom_keeps k2.size)
  refine wpIn_rangeFunc_ownH rfl (by omega) (gf := 113) (lb := #[.pointer (some ⟨w.heap.size + 1 + 1 + 1 + 1, 0, none⟩)]) rfl trivial (enters_of Try.func113 (by kernel_rfl) rfl)
    (ST.out _ (fun k => k = w.heap.size + 1 + 1) w1 (by omega) hB)
    (fun h k => KeepX.trans h k) KeepX.putObj (Below.refl _ _) (fun _ => rfl)
    (fun pre W => (Pset W (w.heap.size + 1 + 1) mark (lfP (okAll mark rs) pre) ∧ W.cell? ⟨w.heap.size + 1 + 1 + 1, 0, none⟩ = some (.map (some (w.heap.size + 1 + 1))) ∧ W.cell? ⟨w.heap.size + 1, 0, none⟩ = some (.slice a rs.length cap)) ∧ Keeps w W)
    (fun _ _ _ => False)
    hI
    (fun _ _ _ _ _ hs _ _ => hs)
    ⟨⟨hp0.keep k1, k1.cell hv0, k1.cell hr0⟩, k2⟩
    (fun x a' W => ∃ bx, a' = { tmps := #[.agg #[.int .i64 mark, .int .i64 llo, .int .i64 lhi, .int .i64 clo, .int .i64 chi, .slice ra rs0.length rc], .slice a rs.length cap, .pointer (some ⟨w.heap.size, 0, none⟩), .pointer (some ⟨w.heap.size + 1, 0, none⟩), .map none, .pointer (some ⟨w.heap.size + 1 + 1 + 1, 0, none⟩), .pointer (some ⟨bx, 0, none⟩), undef, undef, .map (some (w.heap.size + 1 + 1)), .agg #[.int .i64 mark, .int .i64 llo, .int .i64 lhi, .int .i64 clo, .int .i64 chi, .slice ra rs0.length rc], .func (.func 113) #[] #[.pointer (some ⟨w.heap.size + 1 + 1 + 1 + 1, 0, none⟩)], pV mark x, undef, undef, undef, undef, undef, undef, undef, undef, undef, undef, undef, undef, undef, undef], defers := [] } ∧ PrAt W bx mark x)
    (fun x a' s A C row hs hg hr => by
      obtain ⟨bx, e, h⟩ := hs
      exact ⟨bx, e, PrAt.own (β := Unit) _ bx mark x () A C row h hg hr⟩) ?assign ?body ?done ?stop
  case assign =>
    intro l pre x W K hIW hK
    obtain ⟨⟨p1, p2⟩, hpx⟩ := x
    simp only [pV]
    have hb := (Keeps.refl W).alloc (.cells #[.int .i64 mark, .int .i64 p1, .int .i64 p2] 85)
    gi_wp2
    refine hK _ _ ((others_of hb).from _) (KeepX.of_keeps hb) (hI pre W _ none hIW (hb.grown none) (fun r e => by cases e)) ⟨W.heap.size, rfl, ?_⟩
    constructor <;> simp [go_sem]
  case body =>
    rintro l pre x a' W hl0 hlr ⟨⟨hp, hv, hr⟩, hk⟩ ⟨bx, rfl, hx⟩ hN
    have hpl := lfP_len (okAll mark rs) pre
    have hsn := lfP_snoc (okAll mark rs) pre x
    have PUT := Lib.hid (fun (W1 : World) (h : Pset W1 (w.heap.size + 1 + 1) mark (lfP (okAll mark rs) pre)) => h.put hm1 hm2 x (by unfold maxLen; omega))
    obtain ⟨⟨p1, p2⟩, hpx⟩ := x
    obtain ⟨x0, x1, x2⟩ := hx
    dsimp only at x0 x1 x2
    simp only [pV] at PUT ⊢
    have CB := Lib.hid (fun r w1 hr => CallsIn.inRound l ((callsIn_wide (n := 4 - 1 - 1 - 1)).2 (canBe_pr mark p1 p2 r w1 hm1 hm2 hpx hr)))
    have Hp := Lib.hid hp
    have Hsn := Lib.hid hsn
    have HpI := Lib.hid (show ∀ W', Keeps W W' → _ from fun W' hkk => hI pre W W' none ⟨⟨hp, hv, hr⟩, hk⟩ (hkk.grown none) (fun r e => by cases e))
    have hlb := lt_of_cell x0
    have hlv := lt_of_cell hv
    have hlr2 := lt_of_cell hr
    clear hp hsn hlr
    gi_wp2_with fail
    gi_loopw [15] (fun i wr => ∃ k : Nat, k ≤ rs.length ∧ i = .int .i64 k ∧ (∀ j, j < k → canB mark (p1, p2) (rs[j]?.getD (0, 0, 0, 0)) = true) ∧ Keeps W wr) (fun i _ => rs.length - (intOf i).toNat)
    case atStart => exact ⟨0, Nat.zero_le _, rfl, fun j hj => absurd hj (by omega), Keeps.refl _⟩
    case round =>
      obtain ⟨k, hkl, rfl, hall, hkp⟩ := hrel
      have Hall := Lib.hid hall
      clear hall
      have y0 := hkp.cell x0
      have y1 := hkp.cell x1
      have y2 := hkp.cell x2
      have z1 := hkp.cell hv
      have hlb2 := lt_of_cell y0
      have hlv2 := lt_of_cell z1
      by_cases hlt : k < rs.length
      · obtain ⟨b, o, rfl, hc⟩ := (HR.out.keep (hk.trans hkp)) (by intro e; rw [e] at hlt; simp at hlt)
        have c0 := hc k hlt
        obtain ⟨r, hrr⟩ : ∃ r, rs[k]?.getD (0, 0, 0, 0) = r := ⟨_, rfl⟩
        rw [hrr] at c0
        have hr1 : okW r := HW.out r (by rw [← hrr, List.getElem?_eq_getElem hlt]; exact List.getElem_mem hlt)
        have hlc := lt_of_cell c0
        have C1 := Lib.hid (fun w1 => CB.out r w1 hr1)
        have Hrr := Lib.hid hrr
        cases hv2 : canB mark (p1, p2) r with
        | false =>
          rw [hv2] at C1
          have HF := Lib.hid (Hsn.out.trans (if_neg (by rw [okAll_no (p := ⟨(p1, p2), hpx⟩) hlt (by rw [hrr]; exact hv2)]; simp)))
          clear hc hrr hv2 hr1
          gi_wp2_with fail
          refine (C1.out _).mono ?_
          rintro e w2 ⟨rfl, k3⟩
          gi_wp2_with fail
          have hkk := hkp.trans k3
          exact ⟨(others_of hkk).from _, KeepX.of_keeps hkk, by dsimp only; rw [HF.out]; exact HpI.out _ hkk⟩
        | true =>
          rw [hv2] at C1
          have HT := Lib.hid hv2
          clear hc hrr hv2 hr1
          gi_wp2_with fail
          refine (C1.out _).mono ?_
          rintro e w2 ⟨rfl, k3⟩
          gi_wp2_with fail
          go_roundw
          case rel => exact ⟨k + 1, by omega, by go_num, fun j hj => by
            by_cases e : j = k
            · subst e; rw [Hrr.out]; exact HT.out
            · exact Hall.out j (by omega), hkp.trans k3⟩
          case measure => simp [intOf]; omega
      · have hT := Hsn.out.trans (if_pos (okAll_yes (p := ⟨(p1, p2), hpx⟩) (fun j hj => Hall.out j (by omega))))
        have HT := Lib.hid hT
        obtain ⟨w3, hput, hP3, hg3⟩ := PUT.out wr (Hp.out.keep hkp)
        have HP3 := Lib.hid hP3
        clear hT hP3
        gi_wp2_with fail
        exact ⟨((others_of hkp).from _).trans (KeepsFrom.of_grownBy hg3 (fun j e => by cases e; omega)), (KeepX.of_keeps hkp).trans (KeepX.of_grown hg3),
          ⟨by rw [HT.out]; exact HP3.out, hg3.cell (hkp.cell hv) (by intro e; injection e with e; dsimp only at e; omega), hg3.cell (hkp.cell hr) (by intro e; injection e with e; dsimp only at e; omega)⟩,
          Below.grown (hk.trans hkp) hg3 (hk.trans hkp).size (fun k e => by cases e; omega)⟩
  case done =>
    rintro D zs W hD rfl ⟨⟨hp, hv, hr⟩, hk⟩ hK
    have Hp := Lib.hid hp
    clear hp
    go_wp2_with fail
    rw [Exit.noGoto_ret]
    refine ⟨by simp, .inl ⟨_, _, rfl, run_takeDeferred hK, ?_⟩⟩
    refine ⟨_, results_tmp rfl _ _ _, _, rfl, ?_, keeps_putObj hk _ (by omega), by omega⟩
    rw [HLE.out]
    exact Hp.out.of_block (World.putObj_heap_other (by omega))
  case stop =>
    rintro D c pre W _ _ h _
    exact h.elim
end Go.Proofs.Ytmhpgjlegajpeaa

namespace Go.Proofs.Ytmhpgjlegajpeaa
open Go.RowKit Go.Maps

theorem readings_at (B : Wm) (w : World) (hI : B.In w) (hok : B.ok = true) :
    Calls Try.prog 61 #[B.v] w fun e w' => ∃ a, e = .returned (.slice a B.rs.length B.rs.length) ∧ Rgs w' a B.rs ∧ (∀ b o, a = some ⟨b, o, none⟩ → b < w'.heap.size) ∧ Keeps w w' :=
  (readings_any B w hI hok).mono fun _ _ ⟨he, hg, hk, hz⟩ => ⟨_, he, hg, fun b o e => by cases e; exact hz, hk⟩
theorem left_at (B : Wm) (hok : B.ok = true) (a : Option Addr) (w : World) (hR : Rgs w a B.rs) (hRb : ∀ b o, a = some ⟨b, o, none⟩ → b < w.heap.size) :
    Calls Try.prog 76 #[B.v, .slice a B.rs.length B.rs.length] w fun e w' => ∃ b, e = .returned (.map (some b)) ∧ Pset w' b B.mark B.truths ∧ Keeps w w' ∧ w.heap.size ≤ b :=
  left_any B (Wm.ok_lim hok) B.rs a B.rs.length w (fun r hr => vWr_okW ((vWrs_at (Wm.ok_reads hok)).2 r hr)) (vWrs_at (Wm.ok_reads hok)).1 hR hRb

set_option maxHeartbeats 1600000 in
theorem truths_b (B : Wm) (w : World) (hI : B.In w) (hok : B.ok = true) (t : Bool) (ht : B.truths.isEmpty = t) :
    Calls Try.prog 51 #[B.v] w (if t then Pan 10 w else fun e w' => ∃ b, e = .returned (.map (some b)) ∧ Pset w' b B.mark B.truths ∧ Keeps w w' ∧ w.heap.size ≤ b) := by
  have H1 := Lib.hid (fun w1 (k : Keeps w w1) => readings_at B w1 (hI.keep k) hok)
  have H2 := Lib.hid (fun w1 a hg hb => left_at B hok a w1 hg hb)
  have hl : t = (B.truths.length == 0) := by rw [← ht]; cases B.truths <;> rfl
  obtain ⟨ts, hts⟩ : ∃ ts, B.truths = ts := ⟨_, rfl⟩
  rw [hts] at H2 hl ⊢
  obtain ⟨mark, llo, lhi, clo, chi, ra, rc, rs⟩ := B
  dsimp only [Wm.v] at *
  clear hok hI hts ht
  have k0 := (Keeps.refl w).alloc (.cells #[.int .i64 mark, .int .i64 llo, .int .i64 lhi, .int .i64 clo, .int .i64 chi, .slice ra rs.length rc] 26)
  cases t
  all_goals
    simp only [if_true, Bool.false_eq_true, if_false]
    go_enter Try.func51, Try.ntmps51
    go_wp2_with fail
    go_region_with (first | (go_at_call 61; refine (H1.out _ k0.drew).mono ?_; rintro e w1 ⟨a, rfl, hg, hb, k1⟩; have hc1 := k1.undrew.cells) | (go_at_call 76; refine (H2.out _ _ hg hb).mono ?_; rintro e w2 ⟨b, rfl, hp, k2, hb2⟩; have hlen := hp.len; have kk := (k0.trans k1.undrew).trans k2; have hle : w.heap.size ≤ b := by have := k0.size; have := k1.undrew.size; omega))
  all_goals
    have HP := Lib.hid hp
    have hl' : ((ts.length : Int) == 0) = _ := (show ((ts.length : Int) == 0) = (ts.length == 0) by rw [Bool.eq_iff_iff]; simp).trans hl.symm
    clear hp hl
    go_wp2
    first
    | exact ⟨rfl, rfl, kk⟩
    | (go_ret; exact ⟨b, rfl, HP.out, kk, hle⟩)
end Go.Proofs.Ytmhpgjlegajpeaa
