/-
  LAW: with: a block with an event more.
  LAW: a block with a reading more: numbers.
  LAW: WearFits, walked.
  LAW: with, by numbers; WearEnds: numbers.
-/
import Derived.Test.YtihoackebmnkaaaGreatGi
import Derived.Test.YtihoackebmnkaaaGreatGb
namespace Go.Proofs.YtihoackebmnkaaaGreat
open Go.RowKit Go.Proofs.Tryz


def Wn.add (w : Wn) (x : Ev) : Wn := ⟨w.l, w.u, w.es ++ [x]⟩
/-- A block with an event more, whose events lie elsewhere. -/
def Wb.add (p : Wb) (x : Ev) (a : Option Addr) (c : Nat) : Wb := ⟨p.ll, p.lh, p.ul, p.uh, a, c, p.es ++ [x]⟩
theorem add_n (p : Wb) (x : Ev) (a : Option Addr) (c : Nat) : (p.add x a c).n = p.n.add x := rfl
theorem add_len (w : Wn) (x : Ev) : (w.add x).es.length = w.es.length + 1 := by unfold Wn.add; simp
theorem add_fine {w : Wn} {x : Ev} (h : w.Fine) (hx : vEv x = true) (h7 : w.es.length < 8) : (w.add x).Fine := by
  refine ⟨h.l, h.lw, h.u, by rw [add_len]; omega, fun e he => ?_⟩
  rcases List.mem_append.1 he with he | he
  · exact h.ev e he
  · rw [List.mem_singleton] at he
    subst he
    exact hx
theorem FW_add (u l : Sp) (es : List Ev) (x : Ev) {i : Nat} (h : i ≤ es.length) : FW u l (es ++ [x]) i = FW u l es i := by
  unfold FW
  rw [List.take_append_of_le_length h]
theorem elE_add (es : List Ev) (x : Ev) : elE (es ++ [x]) es.length = x := by
  unfold elE
  rw [List.getElem?_append_right (Nat.le_refl _), Nat.sub_self]
  rfl
theorem FW_addL (u l : Sp) (es : List Ev) (x : Ev) : FW u l (es ++ [x]) (es.length + 1) = fwdE u x (FW u l es es.length) := by
  rw [FW_next u l (by simp), FW_add u l es x (Nat.le_refl _), elE_add]
theorem fwd_read {u : Sp} {x : Ev} (h : x.1 = 1) (k : Sp) : fwdE u x k = cutS k x.2.2 := by
  unfold fwdE
  rw [show (x.1 == 0) = false by rw [h]; rfl, show (x.1 == 2) = false by rw [h]; rfl]
  rfl
theorem B_last (w : Wn) : w.B w.es.length = FW w.u w.l w.es w.es.length := BW_last _ _ _
theorem add_last {w : Wn} {x : Ev} (h : x.1 = 1) : (w.add x).B (w.es.length + 1) = cutS (w.B w.es.length) x.2.2 := by
  have h1 := B_last (w.add x)
  rw [add_len] at h1
  rw [h1, B_last]
  show FW w.u w.l (w.es ++ [x]) (w.es.length + 1) = _
  rw [FW_addL, fwd_read h]
theorem add_can {w : Wn} {x : Ev} (hF : w.Fine) (hx : vEv x = true) (h7 : w.es.length < 8) (h : x.1 = 1) : (w.add x).can = possS (cutS (w.B w.es.length) x.2.2) := by
  rw [(add_fine hF hx h7).ok_.can_F, ← add_last h]
  unfold Wn.F
  have h1 := B_last (w.add x)
  rw [← h1, add_len]
/-- A block whose first length is known. -/
def Wn.one (w : Wn) (m : Int) : Wn := ⟨(m, m), w.u, w.es⟩
def Wb.one (p : Wb) (m : Int) : Wb := ⟨m, m, p.ul, p.uh, p.ea, p.ec, p.es⟩
theorem one_n (p : Wb) (m : Int) : (p.one m).n = p.n.one m := rfl
theorem one_in {p : Wb} {w : World} (h : p.In w) (m : Int) : (p.one m).In w := ⟨h.ev, h.ln⟩
theorem one_fine {w : Wn} (h : w.Fine) {m : Int} (h1 : w.l.1 ≤ m) (h2 : m ≤ w.l.2) : (w.one m).Fine := by
  have hl := h.l
  exact ⟨⟨by show (0 : Int) ≤ m; omega, Int.le_refl _, by show m ≤ 300; omega⟩, by show m - m ≤ 20; omega, h.u, h.n8, h.ev⟩
theorem one_last (w : Wn) (m : Int) : (w.one m).B w.es.length = w.lost1 m := B_last (w.one m)
theorem one_can {w : Wn} (h : w.Fine) {m : Int} (h1 : w.l.1 ≤ m) (h2 : m ≤ w.l.2) : (w.one m).can = possS (w.lost1 m) := by
  rw [(one_fine h h1 h2).ok_.can_F]
  rfl
theorem one_lost {w : Wn} {m : Int} (hb : possS (w.lost1 m) = true) : (w.one m).lost = (m - (w.lost1 m).2, m - (w.lost1 m).1) := by
  have e : (w.one m).nl = 1 := by unfold Wn.nl Wn.one; dsimp only; omega
  unfold Wn.lost
  rw [e, lostK_yes (w := w.one m) (t := 0) (a := m) (by show m + 0 = m; omega) hb]
  rfl
theorem one_mC (w : Wn) (m : Int) : mC (w.one m) w.es.length = w.lost1 m := by
  rw [mC_le (w.one m) (k := w.es.length) (Nat.le_refl _), one_last]
/-- What the law has joined of the first lengths up to the t-th one. -/
def ownS (w : Wn) (t : Nat) : Sp := (lostK w t).foldl joiS (1073741824, -1073741824)
theorem own_no {w : Wn} {t : Nat} {a : Int} (ha : w.l.1 + (t : Int) = a) (h : possS (w.lost1 a) = false) : ownS w (t + 1) = ownS w t := by unfold ownS; rw [lostK_no ha h]
theorem own_yes {w : Wn} {t : Nat} {a : Int} (ha : w.l.1 + (t : Int) = a) (h : possS (w.lost1 a) = true) : ownS w (t + 1) = joiS (ownS w t) (a - (w.lost1 a).2, a - (w.lost1 a).1) := by unfold ownS; rw [lostK_yes ha h, List.foldl_append]; rfl
theorem own_all {w : Wn} (h : w.Fine) (hc : w.can = true) : ownS w w.nl = w.lost := by
  have hne := lostK_some h hc
  have hmem : ∀ x ∈ lostK w w.nl, -4000 ≤ x.1 ∧ x.1 ≤ 4000 ∧ -4000 ≤ x.2 ∧ x.2 ≤ 4000 := fun x hx => by
    obtain ⟨i, hi, _, rfl⟩ := lostK_mem.1 hx
    have hl := h.l
    unfold Wn.nl at hi
    have hb := lost_bd h (a := w.l.1 + (i : Int)) (by omega) (by omega) (Nat.le_refl w.es.length)
    unfold bdS at hb
    unfold Wn.lost1
    dsimp only
    omega
  unfold ownS Wn.lost joinK
  cases hL : lostK w w.nl with
  | nil => exact (hne hL).elim
  | cons x L =>
    rw [hL] at hmem
    have hx := hmem x List.mem_cons_self
    rw [List.foldl_cons, List.drop_one, List.tail_cons, List.length_cons, Nat.add_sub_cancel, List.take_length]
    congr 1
    unfold joiS
    dsimp only
    rw [Int.min_eq_right (by omega), Int.max_eq_right (by omega)]
    rfl
end Go.Proofs.YtihoackebmnkaaaGreat

namespace Go.Proofs.YtihoackebmnkaaaGreat
open Go.RowKit Go.Proofs.Tryz


theorem add_in {p : Wb} {x : Ev} {w : World} {g cap : Nat} {sp : List Value} (h : w.heap[g]? = some (.cells ((p.es ++ [x]).flatMap evR ++ sp).toArray 55 (0, 0))) (h8 : p.es.length ≤ 8) : (p.add x (some ⟨g, 0, none⟩) cap).In w :=
  ⟨Evs.of_flat h, by show (p.es ++ [x]).length ≤ maxLen; rw [List.length_append]; simp only [List.length_singleton, maxLen]; omega⟩
end Go.Proofs.YtihoackebmnkaaaGreat

namespace Go.Proofs.YtihoackebmnkaaaGreat
open Go.RowKit Go.Proofs.Tryz


def capW (n x y : Nat) : Nat := capE (0 + n + 1) (capN (0 + n) x) y
def spW (n x y : Nat) : List Value := spE (.agg #[.int .i64 0, .int .i64 0, .int .i64 0, .int .i64 0]) (0 + n + 1) (capN (0 + n) x) (1 * 4) (spareN (.agg #[.int .i64 0, .int .i64 0, .int .i64 0, .int .i64 0]) (0 + n) x) y
set_option maxRecDepth 100000 in
theorem lwithN_any (p : Wb) (x : Ev) (be oe : Nat) (w : World) (hp : p.In w) (hea : p.ea = some ⟨be, oe, none⟩) (h8 : p.es.length ≤ 8) (hne : 0 < p.es.length) : Calls Tryz.prog 34 #[.agg #[.int .i64 p.ll, .int .i64 p.lh, .int .i64 p.ul, .int .i64 p.uh, .slice (some ⟨be, oe, none⟩) p.es.length p.ec], .agg #[.int .i64 (x).1, .int .i64 (x).2.1, .int .i64 (x).2.2.1, .int .i64 (x).2.2.2]] w (NwL (α := Nat × Nat × Nat) (fun a => .tuple #[.agg #[.int .i64 p.ll, .int .i64 p.lh, .int .i64 p.ul, .int .i64 p.uh, .slice (some ⟨a.1, 0, none⟩) ((p.es ++ [x]).length) (capW p.es.length a.2.1 a.2.2)], .bool (decide (p.es.length + 1 ≤ 8))]) (fun a => [(a.1, .cells ((p.es ++ [x]).flatMap evR ++ spW p.es.length a.2.1 a.2.2).toArray 55 (0, 0))]) (fun _ => True) w) := by
  have hce : ∀ w1, Kept (fun _ => False) w w1 → ∀ j u, (p.es.flatMap evR)[j]? = some u → w1.cell? ((⟨be, oe, none⟩ : Addr).add j) = some u := fun w1 k1 j u hu => by
      obtain ⟨b2, o2, h1, h2⟩ := (hp.ev.keep (k1.keeps (fun _ h => h))).flat (by intro h; rw [h] at hne; cases hne)
      rw [hea] at h1
      injection h1 with h1
      injection h1 with e1 e2
      subst e1; subst e2
      exact h2 j u hu
  refine calls_run (fn := f34) (c := (f34.body).getD .skip) [.agg #[.int .i64 p.ll, .int .i64 p.lh, .int .i64 p.ul, .int .i64 p.uh, .slice (some ⟨be, oe, none⟩) p.es.length p.ec], .agg #[.int .i64 (x).1, .int .i64 (x).2.1, .int .i64 (x).2.2.1, .int .i64 (x).2.2.2]] func34 (by kernel_rfl) (fun _ => False) [] (fun _ h => by cases h) (List.Pairwise.nil) 21 (by kernel_rfl) (by simp) ?_
  refine run_auto [] 2 [] [] [0, 1] [] (st' := ⟨[(0, .agg #[iV p.ll, iV p.lh, iV p.ul, iV p.uh, .slice (some ⟨be, oe, none⟩) p.es.length p.ec]), (1, .agg #[iV (x).1, iV (x).2.1, iV (x).2.2.1, iV (x).2.2.2])], []⟩) (acc := []) (by kernel_rfl) (by kernel_rfl) trivial ?_
  refine run_new (aO #[iV p.ll, iV p.lh, iV p.ul, iV p.uh, .slice (some ⟨be, oe, none⟩) p.es.length p.ec] 26) (fun b1 => pA b1) (some 2) (fun _ => by kernel_rfl) (fun b1 hb1 => ?_)
  refine run_new (aO #[iV (x).1, iV (x).2.1, iV (x).2.2.1, iV (x).2.2.2] 55) (fun b2 => pA b2) (some 3) (fun _ => by kernel_rfl) (fun b2 hb2 => ?_)
  refine run_new (aO #[iV 0, iV 0, iV 0, iV 0, .slice none 0 0] 26) (fun b3 => pA b3) (some 4) (fun _ => by kernel_rfl) (fun b3 hb3 => ?_)
  refine run_auto [] 5 [] [2] [2, 3, 4, 5, 7] [0, 1, 2] (st' := ⟨[(2, pA b1), (3, pA b2), (4, pA b3), (5, .bool false), (7, .agg #[iV p.ll, iV p.lh, iV p.ul, iV p.uh, .slice (some ⟨be, oe, none⟩) p.es.length p.ec])], [(b3, aO #[iV 0, iV 0, iV 0, iV 0, .slice none 0 0] 26), (b2, aO #[iV (x).1, iV (x).2.1, iV (x).2.2.1, iV (x).2.2.2] 55), (b1, aO #[iV p.ll, iV p.lh, iV p.ul, iV p.uh, .slice (some ⟨be, oe, none⟩) p.es.length p.ec] 26)]⟩) (acc := [(pA b1, pA b1)]) (by kernel_rfl) (by kernel_rfl) ⟨rfl, trivial⟩ ?_
  refine run_new (aO #[iV 0, iV 0, iV 0, iV 0, .slice none 0 0] 26) (fun b4 => pA b4) (some 6) (fun _ => by kernel_rfl) (fun b4 hb4 => ?_)
  refine run_auto [] 3 [] [0] [2, 3, 4, 5, 6] [0, 1, 2, 3] (st' := ⟨[(2, pA b1), (3, pA b2), (4, pA b3), (5, .bool false), (6, pA b4)], [(b4, aO #[iV p.ll, iV p.lh, iV p.ul, iV p.uh, .slice (some ⟨be, oe, none⟩) p.es.length p.ec] 26), (b3, aO #[iV 0, iV 0, iV 0, iV 0, .slice none 0 0] 26), (b2, aO #[iV (x).1, iV (x).2.1, iV (x).2.2.1, iV (x).2.2.2] 55), (b1, aO #[iV p.ll, iV p.lh, iV p.ul, iV p.uh, .slice (some ⟨be, oe, none⟩) p.es.length p.ec] 26)]⟩) (acc := [(pA b4, pA b4)]) (by kernel_rfl) (by kernel_rfl) ⟨rfl, trivial⟩ ?_
  refine drawW 9 [{ names := [4], val := fun l => .slice (some ⟨(l.getD 0 0), 0, none⟩) 0 0, upd := [(4, fun l => aO #[] 55)], news := [4] },
      { val := fun _ => .pointer (some ⟨b1, 4, none⟩), slots := [2] },
      { val := fun _ => .slice (some ⟨be, oe, none⟩) p.es.length p.ec, slots := [9], reads := [3] },
      { names := [7, 1000007], val := fun l => .slice (some ⟨(l.getD 0 0), 0, none⟩) (0 + p.es.length) (capN (0 + p.es.length) (l.getD 1 0)), upd := [(7, fun l => cO ((([] : List Ev) ++ (p.es : List Ev)).flatMap evR ++ (spareN ((.agg #[iV 0, iV 0, iV 0, iV 0])) (0 + p.es.length) (l.getD 1 0))) 55)], news := [7, 1000007], slots := [8, 10], reads := [4] },
      { val := fun _ => .agg #[iV (x).1, iV (x).2.1, iV (x).2.2.1, iV (x).2.2.2], slots := [3], reads := [2] },
      { names := [9], val := fun l => .slice (some ⟨(l.getD 0 0), 0, none⟩) 1 1, upd := [(9, fun l => aO #[iV (x).1, iV (x).2.1, iV (x).2.2.1, iV (x).2.2.2] 55)], news := [9], slots := [12] },
      { names := [10, 1000007, 1000010], val := fun l => .slice (some ⟨(l.getD 0 0), 0, none⟩) (0 + p.es.length + 1) (capE (0 + p.es.length + 1) (capN (0 + p.es.length) (l.getD 1 0)) (l.getD 2 0)), upd := [(10, fun l => cO (((([] : List Ev) ++ (p.es : List Ev)) ++ ([((x).1, (x).2.1, (x).2.2.1, (x).2.2.2)] : List Ev)).flatMap evR ++ (spE ((.agg #[iV 0, iV 0, iV 0, iV 0])) (0 + p.es.length + 1) (capN (0 + p.es.length) (l.getD 1 0)) (1 * 4) (spareN ((.agg #[iV 0, iV 0, iV 0, iV 0])) (0 + p.es.length) (l.getD 1 0)) (l.getD 2 0))) 55)], news := [10, 1000010], slots := [11, 13], reads := [7, 9], takes := [7] },
      { val := fun _ => .pointer (some ⟨b4, 4, none⟩), slots := [6] },
      { names := [10, 1000007, 1000010], upd := [(0, fun l => aO #[iV p.ll, iV p.lh, iV p.ul, iV p.uh, .slice (some ⟨(l.getD 0 0), 0, none⟩) (0 + p.es.length + 1) (capE (0 + p.es.length + 1) (capN (0 + p.es.length) (l.getD 1 0)) (l.getD 2 0))] 26)], slots := [14, 15], reads := [0] }] [[], [], [1], [0, 1, 2], [], [4], [0, 1, 2, 3, 4, 5], [0, 1, 2, 3, 4, 5, 6], [0, 1, 2, 3, 4, 5, 6, 7]] (by kernel_rfl) (by kernel_rfl) (by kernel_rfl) (by kernel_rfl) [4, 5, 6] [0, 1, 10] (by kernel_rfl)
      ⟨⟨⟨⟨⟨⟨⟨⟨⟨trivial,
      tri_newW 4 (fun β => aO #[] 55) (fun β b => sV b 0 0) [0] (by kernel_rfl) (fun β extra b => by kernel_rfl) (by kernel_rfl) (fun β b => by kernel_rfl) (fun β b => by kernel_rfl) (fun β b => by kernel_rfl)⟩,
      tri_quietW (fun β => []) [] [] (fun β => []) (by kernel_rfl) (fun β extra => by kernel_rfl) (by kernel_rfl) (fun β => trivial)⟩,
      tri_quietW (fun β => []) [0] [0] (fun β => [(pA b1, pA b1)]) (by kernel_rfl) (fun β extra => by kernel_rfl) (by kernel_rfl) (fun β => ⟨rfl, trivial⟩)⟩,
      tri_growW (t := 24) (ty := 24) (e := 55) (n := 4) (z := (.agg #[iV 0, iV 0, iV 0, iV 0])) (by kernel_rfl) (by kernel_rfl) (by kernel_rfl) rfl (by kernel_rfl) evR evR_len 7 1000007 rfl rfl (fun β => (β 4)) (fun β => ⟨be, oe, none⟩) 0 p.es.length 0 p.ec ([] : List Ev) (p.es : List Ev) ([]) (by first | rfl | omega | (simp; done) | (simp; omega)) (by first | rfl | omega | (simp; done) | (simp; omega)) (by omega) (by omega) (by kernel_rfl) (fun β extra => by kernel_rfl) (fun β => by kernel_rfl) (fun β b x => by kernel_rfl) (fun β b x => by kernel_rfl) (fun β b x => by kernel_rfl) (fun β => (fun w1 k1 h1 jq uq hu => hce w1 k1 jq uq hu))⟩,
      tri_quietW (fun β => []) [0] [0] (fun β => [(pA b2, pA b2)]) (by kernel_rfl) (fun β extra => by kernel_rfl) (by kernel_rfl) (fun β => ⟨rfl, trivial⟩)⟩,
      tri_newW 9 (fun β => aO #[iV (x).1, iV (x).2.1, iV (x).2.2.1, iV (x).2.2.2] 55) (fun β b => sV b 1 1) [0] (by kernel_rfl) (fun β extra b => by kernel_rfl) (by kernel_rfl) (fun β b => by kernel_rfl) (fun β b => by kernel_rfl) (fun β b => by kernel_rfl)⟩,
      tri_app (t := 24) (ty := 24) (e := 55) (n := 4) (z := (.agg #[iV 0, iV 0, iV 0, iV 0])) (by kernel_rfl) (by kernel_rfl) (by kernel_rfl) rfl (by kernel_rfl) evR evR_len evR_one 10 1000010 7 rfl rfl (fun β => (β 7)) (fun β => ⟨(β 9), 0, none⟩) (fun β => [((β 9), aO #[iV (x).1, iV (x).2.1, iV (x).2.2.1, iV (x).2.2.2] 55)]) (0 + p.es.length) 1 1 (fun β => (capN (0 + p.es.length) (β 1000007))) (([] : List Ev) ++ (p.es : List Ev)) ([((x).1, (x).2.1, (x).2.2.1, (x).2.2.2)] : List Ev) (fun β => (spareN ((.agg #[iV 0, iV 0, iV 0, iV 0])) (0 + p.es.length) (β 1000007))) (by first | rfl | omega | (simp; done) | (simp; omega)) (by first | rfl | omega | (simp; done) | (simp; omega)) (fun β => (grow_len (l := 0 + p.es.length) evR_len (by first | rfl | omega | (simp; done) | (simp; omega)) (by simp only [maxLen]; omega) _ rfl _)) (by omega) (by kernel_rfl) (by kernel_rfl) (fun β extra => by kernel_rfl) (fun β => by kernel_rfl) (fun β b x => by kernel_rfl) (fun β b x => by kernel_rfl) (fun β b x => by kernel_rfl) (fun β => by kernel_rfl) (fun β w1 k1 h1 jq uq hu => by rw [add_none, Nat.zero_add]; exact cells_of_heap (h1 ((β 9), aO #[iV (x).1, iV (x).2.1, iV (x).2.2.1, iV (x).2.2.2] 55) (List.mem_of_getElem? (i := 1) (by kernel_rfl))) jq uq hu)⟩,
      tri_quietW (fun β => []) [] [] (fun β => []) (by kernel_rfl) (fun β extra => by kernel_rfl) (by kernel_rfl) (fun β => trivial)⟩,
      tri_quietW (fun β => []) [0] [0] (fun β => [(pA b4, pA b4)]) (by kernel_rfl) (fun β extra => by kernel_rfl) (by kernel_rfl) (fun β => ⟨rfl, trivial⟩)⟩
      (fun β => ⟨[(4, pA b3), (5, .bool false), (6, pA b4)], [(b4, aO #[iV p.ll, iV p.lh, iV p.ul, iV p.uh, .slice (some ⟨(β 10), 0, none⟩) (0 + p.es.length + 1) (capE (0 + p.es.length + 1) (capN (0 + p.es.length) (β 1000007)) (β 1000010))] 26), (b3, aO #[iV 0, iV 0, iV 0, iV 0, .slice none 0 0] 26), ((β 10), cO (((([] : List Ev) ++ (p.es : List Ev)) ++ ([((x).1, (x).2.1, (x).2.2.1, (x).2.2.2)] : List Ev)).flatMap evR ++ (spE ((.agg #[iV 0, iV 0, iV 0, iV 0])) (0 + p.es.length + 1) (capN (0 + p.es.length) (β 1000007)) (1 * 4) (spareN ((.agg #[iV 0, iV 0, iV 0, iV 0])) (0 + p.es.length) (β 1000007)) (β 1000010))) 55)]⟩) (fun β => by kernel_rfl) (fun β5 => ?_)
  refine run_ge0 2 (β5 10) (cO (((([] : List Ev) ++ (p.es : List Ev)) ++ ([((x).1, (x).2.1, (x).2.2.1, (x).2.2.2)] : List Ev)).flatMap evR ++ (spE ((.agg #[iV 0, iV 0, iV 0, iV 0])) (0 + p.es.length + 1) (capN (0 + p.es.length) (β5 1000007)) (1 * 4) (spareN ((.agg #[iV 0, iV 0, iV 0, iV 0])) (0 + p.es.length) (β5 1000007)) (β5 1000010))) 55) (by kernel_rfl) (fun _ h => h) (fun hge6 => ?_)
  refine run_auto [] 1 [] [] [4, 5, 6] [0, 1, 2] (st' := ⟨[(4, pA b3), (5, .bool false), (6, pA b4)], [(b4, aO #[iV p.ll, iV p.lh, iV p.ul, iV p.uh, .slice (some ⟨(β5 10), 0, none⟩) (0 + p.es.length + 1) (capE (0 + p.es.length + 1) (capN (0 + p.es.length) (β5 1000007)) (β5 1000010))] 26), (b3, aO #[iV 0, iV 0, iV 0, iV 0, .slice none 0 0] 26), ((β5 10), cO (((([] : List Ev) ++ (p.es : List Ev)) ++ ([((x).1, (x).2.1, (x).2.2.1, (x).2.2.2)] : List Ev)).flatMap evR ++ (spE ((.agg #[iV 0, iV 0, iV 0, iV 0])) (0 + p.es.length + 1) (capN (0 + p.es.length) (β5 1000007)) (1 * 4) (spareN ((.agg #[iV 0, iV 0, iV 0, iV 0])) (0 + p.es.length) (β5 1000007)) (β5 1000010))) 55)]⟩) (acc := []) (by kernel_rfl) (by kernel_rfl) trivial ?_
  cases hd1 : (decide ((0 + p.es.length + 1 : Int) ≤ 8)) with
  | false =>
    have hp1 := of_decide_eq_false hd1
    refine drawW 7 [{ val := fun _ => .agg #[iV p.ll, iV p.lh, iV p.ul, iV p.uh, .slice (some ⟨(β5 10), 0, none⟩) (0 + p.es.length + 1) (capE (0 + p.es.length + 1) (capN (0 + p.es.length) (β5 1000007)) (β5 1000010))], slots := [6], reads := [0] },
          { val := fun _ => .pointer (some ⟨b4, 4, none⟩), slots := [6] },
          { val := fun _ => .slice (some ⟨(β5 10), 0, none⟩) (0 + p.es.length + 1) (capE (0 + p.es.length + 1) (capN (0 + p.es.length) (β5 1000007)) (β5 1000010)), slots := [17], reads := [0] },
          { val := fun _ => iV (0 + p.es.length + 1 : Int), slots := [18] },
          { val := fun _ => .bool false, slots := [19] },
          { upd := [(1, fun l => aO #[iV p.ll, iV p.lh, iV p.ul, iV p.uh, .slice (some ⟨(β5 10), 0, none⟩) (0 + p.es.length + 1) (capE (0 + p.es.length + 1) (capN (0 + p.es.length) (β5 1000007)) (β5 1000010))] 26)], slots := [4, 16], reads := [1] },
          { val := fun _ => .bool false, slots := [20] }] [[], [], [1], [1, 2], [1, 2, 3], [0], [0, 1, 2, 3, 4, 5]] (by kernel_rfl) (by kernel_rfl) (by kernel_rfl) (by kernel_rfl) [4, 5] [1, 2] (by kernel_rfl)
          ⟨⟨⟨⟨⟨⟨⟨trivial,
          tri_quietW (fun β => []) [0] [0] (fun β => [(pA b4, pA b4)]) (by kernel_rfl) (fun β extra => by kernel_rfl) (by kernel_rfl) (fun β => ⟨rfl, trivial⟩)⟩,
          tri_quietW (fun β => []) [] [] (fun β => []) (by kernel_rfl) (fun β extra => by kernel_rfl) (by kernel_rfl) (fun β => trivial)⟩,
          tri_quietW (fun β => []) [0] [0] (fun β => [(pA b4, pA b4)]) (by kernel_rfl) (fun β extra => by kernel_rfl) (by kernel_rfl) (fun β => ⟨rfl, trivial⟩)⟩,
          tri_quietW (fun β => []) [] [] (fun β => []) (by kernel_rfl) (fun β extra => by kernel_rfl) (by kernel_rfl) (fun β => trivial)⟩,
          tri_quietW (fun β => [(20, .bool false)]) [] [] (fun β => [(.bool (decide ((0 + p.es.length + 1 : Int) ≤ 8)), .bool false)]) (by kernel_rfl) (fun β extra => by kernel_rfl) (by kernel_rfl) (fun β => ⟨(bo hd1), trivial⟩)⟩,
          tri_quietW (fun β => []) [0] [0] (fun β => [(pA b3, pA b3)]) (by kernel_rfl) (fun β extra => by kernel_rfl) (by kernel_rfl) (fun β => ⟨rfl, trivial⟩)⟩,
          tri_quietW (fun β => []) [] [] (fun β => []) (by kernel_rfl) (fun β extra => by kernel_rfl) (by kernel_rfl) (fun β => trivial)⟩
          (fun β => ⟨[(4, pA b3), (5, .bool false)], [(b3, aO #[iV p.ll, iV p.lh, iV p.ul, iV p.uh, .slice (some ⟨(β5 10), 0, none⟩) (0 + p.es.length + 1) (capE (0 + p.es.length + 1) (capN (0 + p.es.length) (β5 1000007)) (β5 1000010))] 26), ((β5 10), cO (((([] : List Ev) ++ (p.es : List Ev)) ++ ([((x).1, (x).2.1, (x).2.2.1, (x).2.2.2)] : List Ev)).flatMap evR ++ (spE ((.agg #[iV 0, iV 0, iV 0, iV 0])) (0 + p.es.length + 1) (capN (0 + p.es.length) (β5 1000007)) (1 * 4) (spareN ((.agg #[iV 0, iV 0, iV 0, iV 0])) (0 + p.es.length) (β5 1000007)) (β5 1000010))) 55)]⟩) (fun β => by kernel_rfl) (fun β7 => ?_)
    refine run_end (fn := f34) rfl (Nat.le_refl _) (by kernel_rfl) [0] [.agg #[iV p.ll, iV p.lh, iV p.ul, iV p.uh, .slice (some ⟨(β5 10), 0, none⟩) (0 + p.es.length + 1) (capE (0 + p.es.length + 1) (capN (0 + p.es.length) (β5 1000007)) (β5 1000010))], .bool false] (e := [(pA b3, pA b3)]) (by kernel_rfl) ⟨rfl, trivial⟩ (fun w1 k1 h1 => ?_)
    have hel : ((([] : List Ev) ++ (p.es : List Ev)) ++ ([((x).1, (x).2.1, (x).2.2.1, (x).2.2.2)] : List Ev)).flatMap evR ++ (spE ((.agg #[iV 0, iV 0, iV 0, iV 0])) (0 + p.es.length + 1) (capN (0 + p.es.length) (β5 1000007)) (1 * 4) (spareN ((.agg #[iV 0, iV 0, iV 0, iV 0])) (0 + p.es.length) (β5 1000007)) (β5 1000010)) = (p.es ++ [x]).flatMap evR ++ spW p.es.length (β5 1000007) (β5 1000010) := by simp [spW]
    rw [hel] at h1
    refine ⟨((β5 10), β5 1000007, β5 1000010), trivial, ?_, k1.keeps (fun _ h => h), fun q hq => ?_, List.pairwise_singleton _ _⟩
    · show Ending.returned _ = Ending.returned _
      rw [show (p.es ++ [x]).length = 0 + p.es.length + 1 by simp; try omega]
      dsimp only
      rw [show decide (p.es.length + 1 ≤ 8) = false from decide_eq_false (by omega)]
      rfl
    · rw [List.mem_singleton] at hq
      subst hq
      exact ⟨h1 ((β5 10), _) (List.mem_of_getElem? (i := 1) rfl), hge6⟩
  | true =>
    have hp1 := of_decide_eq_true hd1
    refine drawW 7 [{ val := fun _ => .agg #[iV p.ll, iV p.lh, iV p.ul, iV p.uh, .slice (some ⟨(β5 10), 0, none⟩) (0 + p.es.length + 1) (capE (0 + p.es.length + 1) (capN (0 + p.es.length) (β5 1000007)) (β5 1000010))], slots := [6], reads := [0] },
          { val := fun _ => .pointer (some ⟨b4, 4, none⟩), slots := [6] },
          { val := fun _ => .slice (some ⟨(β5 10), 0, none⟩) (0 + p.es.length + 1) (capE (0 + p.es.length + 1) (capN (0 + p.es.length) (β5 1000007)) (β5 1000010)), slots := [17], reads := [0] },
          { val := fun _ => iV (0 + p.es.length + 1 : Int), slots := [18] },
          { val := fun _ => .bool true, slots := [19] },
          { upd := [(1, fun l => aO #[iV p.ll, iV p.lh, iV p.ul, iV p.uh, .slice (some ⟨(β5 10), 0, none⟩) (0 + p.es.length + 1) (capE (0 + p.es.length + 1) (capN (0 + p.es.length) (β5 1000007)) (β5 1000010))] 26)], slots := [4, 16], reads := [1] },
          { val := fun _ => .bool true, slots := [20] }] [[], [], [1], [1, 2], [1, 2, 3], [0], [0, 1, 2, 3, 4, 5]] (by kernel_rfl) (by kernel_rfl) (by kernel_rfl) (by kernel_rfl) [4, 5] [1, 2] (by kernel_rfl)
          ⟨⟨⟨⟨⟨⟨⟨trivial,
          tri_quietW (fun β => []) [0] [0] (fun β => [(pA b4, pA b4)]) (by kernel_rfl) (fun β extra => by kernel_rfl) (by kernel_rfl) (fun β => ⟨rfl, trivial⟩)⟩,
          tri_quietW (fun β => []) [] [] (fun β => []) (by kernel_rfl) (fun β extra => by kernel_rfl) (by kernel_rfl) (fun β => trivial)⟩,
          tri_quietW (fun β => []) [0] [0] (fun β => [(pA b4, pA b4)]) (by kernel_rfl) (fun β extra => by kernel_rfl) (by kernel_rfl) (fun β => ⟨rfl, trivial⟩)⟩,
          tri_quietW (fun β => []) [] [] (fun β => []) (by kernel_rfl) (fun β extra => by kernel_rfl) (by kernel_rfl) (fun β => trivial)⟩,
          tri_quietW (fun β => [(20, .bool true)]) [] [] (fun β => [(.bool (decide ((0 + p.es.length + 1 : Int) ≤ 8)), .bool true)]) (by kernel_rfl) (fun β extra => by kernel_rfl) (by kernel_rfl) (fun β => ⟨(bo hd1), trivial⟩)⟩,
          tri_quietW (fun β => []) [0] [0] (fun β => [(pA b3, pA b3)]) (by kernel_rfl) (fun β extra => by kernel_rfl) (by kernel_rfl) (fun β => ⟨rfl, trivial⟩)⟩,
          tri_quietW (fun β => []) [] [] (fun β => []) (by kernel_rfl) (fun β extra => by kernel_rfl) (by kernel_rfl) (fun β => trivial)⟩
          (fun β => ⟨[(4, pA b3), (5, .bool true)], [(b3, aO #[iV p.ll, iV p.lh, iV p.ul, iV p.uh, .slice (some ⟨(β5 10), 0, none⟩) (0 + p.es.length + 1) (capE (0 + p.es.length + 1) (capN (0 + p.es.length) (β5 1000007)) (β5 1000010))] 26), ((β5 10), cO (((([] : List Ev) ++ (p.es : List Ev)) ++ ([((x).1, (x).2.1, (x).2.2.1, (x).2.2.2)] : List Ev)).flatMap evR ++ (spE ((.agg #[iV 0, iV 0, iV 0, iV 0])) (0 + p.es.length + 1) (capN (0 + p.es.length) (β5 1000007)) (1 * 4) (spareN ((.agg #[iV 0, iV 0, iV 0, iV 0])) (0 + p.es.length) (β5 1000007)) (β5 1000010))) 55)]⟩) (fun β => by kernel_rfl) (fun β7 => ?_)
    refine run_end (fn := f34) rfl (Nat.le_refl _) (by kernel_rfl) [0] [.agg #[iV p.ll, iV p.lh, iV p.ul, iV p.uh, .slice (some ⟨(β5 10), 0, none⟩) (0 + p.es.length + 1) (capE (0 + p.es.length + 1) (capN (0 + p.es.length) (β5 1000007)) (β5 1000010))], .bool true] (e := [(pA b3, pA b3)]) (by kernel_rfl) ⟨rfl, trivial⟩ (fun w1 k1 h1 => ?_)
    have hel : ((([] : List Ev) ++ (p.es : List Ev)) ++ ([((x).1, (x).2.1, (x).2.2.1, (x).2.2.2)] : List Ev)).flatMap evR ++ (spE ((.agg #[iV 0, iV 0, iV 0, iV 0])) (0 + p.es.length + 1) (capN (0 + p.es.length) (β5 1000007)) (1 * 4) (spareN ((.agg #[iV 0, iV 0, iV 0, iV 0])) (0 + p.es.length) (β5 1000007)) (β5 1000010)) = (p.es ++ [x]).flatMap evR ++ spW p.es.length (β5 1000007) (β5 1000010) := by simp [spW]
    rw [hel] at h1
    refine ⟨((β5 10), β5 1000007, β5 1000010), trivial, ?_, k1.keeps (fun _ h => h), fun q hq => ?_, List.pairwise_singleton _ _⟩
    · show Ending.returned _ = Ending.returned _
      rw [show (p.es ++ [x]).length = 0 + p.es.length + 1 by simp; try omega]
      dsimp only
      rw [show decide (p.es.length + 1 ≤ 8) = true from decide_eq_true (by omega)]
      rfl
    · rw [List.mem_singleton] at hq
      subst hq
      exact ⟨h1 ((β5 10), _) (List.mem_of_getElem? (i := 1) rfl), hge6⟩


theorem lst_pos {p : Wb} {q : Nat} (h : 0 < q) : lstS p q = mC p.n q := by
  cases q with
  | zero => cases h
  | succ q => rfl
theorem rst_le {u : Sp} {e : Ev} {x y : Int} (hu : 0 ≤ u.1 ∧ u.1 ≤ u.2 ∧ u.2 ≤ 3) (hv : vEv e = true) (hk : e.1 ≠ 1) (h : Rst u e x y) : y ≤ x := by
  unfold Rst at h
  rcases kind_of hv with h0 | h1 | h2
  · rw [if_pos h0] at h
    have := man_bd hu hv h0
    have h1 := h.1
    omega
  · exact (hk h1).elim
  · rw [if_neg (by omega), if_pos h2] at h
    have := lap_bd hv h2
    have h1 := h.1
    omega
theorem at_step {w : Wn} {i : Nat} (hi : i < w.es.length) {x : Int} : (w.At (i + 1) x → ∃ y, w.At i y ∧ Rst w.u (elE w.es i) y x) ∧ (w.At i x → ∃ y, w.At (i + 1) y ∧ Rst w.u (elE w.es i) x y) := by
  have et : w.es.take (i + 1) = w.es.take i ++ [elE w.es i] := by rw [elE_at hi]; exact List.take_succ_eq_append_getElem hi
  have ed : w.es.drop i = elE w.es i :: w.es.drop (i + 1) := by rw [elE_at hi]; exact List.drop_eq_getElem_cons hi
  constructor
  · rintro ⟨⟨a, h1, h2⟩, z, h3⟩
    rw [et] at h2
    obtain ⟨y, h4, h5⟩ := Rch_append.1 h2
    obtain ⟨y2, h6, h7⟩ := h5
    have h7 : y2 = x := h7
    subst h7
    exact ⟨y, ⟨⟨a, h1, h4⟩, z, by rw [ed]; exact ⟨_, h6, h3⟩⟩, h6⟩
  · rintro ⟨⟨a, h1, h2⟩, z, h3⟩
    rw [ed] at h3
    obtain ⟨y, h4, h5⟩ := h3
    exact ⟨y, ⟨⟨a, h1, by rw [et]; exact Rch_append.2 ⟨x, h2, y, h4, rfl⟩⟩, z, h5⟩, h4⟩
theorem B_down {w : Wn} (h : w.Fine) (hc : w.can = true) {i : Nat} (hi : i < w.es.length) (hk : (elE w.es i).1 ≠ 1) : (w.B (i + 1)).1 ≤ (w.B i).1 ∧ (w.B (i + 1)).2 ≤ (w.B i).2 := by
  have hv := h.ev _ (elE_mem hi)
  obtain ⟨e1, _⟩ := h.ok_.ends hc i
  obtain ⟨_, e2⟩ := h.ok_.ends hc (i + 1)
  obtain ⟨y, h1, h2⟩ := (at_step hi).2 e1
  obtain ⟨x, h3, h4⟩ := (at_step hi).1 e2
  have l1 := rst_le h.u hv hk h2
  have l2 := rst_le h.u hv hk h4
  have b1 := (h.ok_.B_in (i + 1) y).2 h1
  have b2 := (h.ok_.B_in i x).2 h3
  exact ⟨Int.le_trans b1.1 l1, Int.le_trans l2 b2.2⟩
theorem down_is {p : Wb} (h : p.n.Fine) (hc : p.n.can = true) {q : Nat} (hq : q < p.es.length) (h0 : 0 < q) (hk : (elE p.es q).1 ≠ 1) : (mC p.n (q + 1)).1 ≤ (lstS p q).1 ∧ (mC p.n (q + 1)).2 ≤ (lstS p q).2 := by
  rw [lst_pos h0, mC_le p.n (show q + 1 ≤ p.n.es.length from hq), mC_le p.n (show q ≤ p.n.es.length from Nat.le_of_lt hq)]
  exact B_down h hc hq hk
end Go.Proofs.YtihoackebmnkaaaGreat
