/-
  FringeMore, its fringes: what the calls tell of one with a reading more, a narrower one, and one that is turned round.
-/
import Derived.Test.YtoidnbpbeblokaaMa
import Derived.Test.YtoidnbpbeblokaaTb
import Derived.Laws.BitsLemmas
namespace Go.Proofs.Ytoidnbpbeblokaa
open Go.RowKit Go.Shelf

theorem andNot_zero (a b : Nat) (h : ∀ i, a.testBit i = true → b.testBit i = true) : bits .andNot .i64 (a : Int) (b : Int) = 0 := by
  show IntKind.i64.wrap ((BitVec.ofInt 64 (a : Int) &&& ~~~BitVec.ofInt 64 (b : Int)).toNat : Int) = 0
  have e : BitVec.ofInt 64 (a : Int) &&& ~~~BitVec.ofInt 64 (b : Int) = 0#64 := by
    apply BitVec.eq_of_getLsbD_eq
    intro i hi
    rw [BitVec.ofInt_natCast, BitVec.ofInt_natCast, BitVec.getLsbD_and, BitVec.getLsbD_not, BitVec.getLsbD_ofNat, BitVec.getLsbD_ofNat]
    cases ha : a.testBit i with
    | false => simp
    | true => simp [h i ha, hi]
  rw [e]
  rfl
theorem colE_is (F : Fr) (hok : F.ok = true) {c : Nat} (hc : c < F.ws.length) : colE F c = if F.truths.length = 0 then 10 else 0 := by
  by_cases ht : F.truths = []
  · rw [colE_10 hok (by omega) ht, ht]; rfl
  · rw [colE_0 hok (by omega) ht, if_neg (by rw [List.length_eq_zero_iff]; exact ht)]
theorem parS_is (F : Fr) (hok : F.ok = true) {c : Nat} (hc : c < F.ws.length) (ht : F.truths.length ≠ 0) : parS F c = psOf (F.ws[c]?.getD 0) F.tl := by
  rw [parS, colE_is F hok hc, if_neg ht, if_pos rfl, Int.toNat_natCast, parts_eq]
  rfl
theorem wn_le6 (F : Fr) (hok : F.ok = true) : F.wn ≤ 6 := by
  have h := (wrong_facts F hok).1
  have p := pow_le F hok
  exact (bits_pop0 (setOf F.wrong) (by omega)).1
theorem wrongR_is (F : Fr) (hok : F.ok = true) : pop (wrongR F).1 = F.wn ∧ (wrongR F).2 = 0 := by
  rw [wrongR, if_pos hok]
  exact ⟨rfl, rfl⟩
/-- What is told of Q tells no more than what is told of F. -/
def Less (F Q : Fr) (c : Nat) (first : Prop) : Prop := Q.ok = true → Q.truths.length ≤ F.truths.length ∧ colE Q c = (if Q.truths.length = 0 then 10 else 0) ∧
  (Q.truths.length ≠ 0 → bits .andNot .i64 ((parS Q c : Nat) : Int) ((parS F c : Nat) : Int) = 0) ∧ F.wn ≤ Q.wn ∧ (first → Q.wn ≤ F.wn + 1)
theorem Wider.less {F Q : Fr} (h : Wider F Q) (hF : F.ok = true) {c : Nat} (hc : c < F.ws.length) (first : Prop) (h1 : first → Q.ok = true → Q.wn ≤ F.wn + 1) : Less F Q c first := fun hQ => by
  have hcq : c < Q.ws.length := by rw [h.ws]; exact hc
  have hcn := h.count hF hQ
  refine ⟨hcn, colE_is Q hQ hcq, fun h0 => ?_, h.wrong hF hQ, fun hf => h1 hf hQ⟩
  rw [parS_is Q hQ hcq h0, parS_is F hF hc (by omega), h.ws]
  exact andNot_zero _ _ (h.parts hF hQ _)
theorem more_gs (F : Fr) (r : Rd) (ra : Option Addr) (rc : Nat) : (F.more r ra rc).gs = F.gs ++ [rgOf F.ws r] := by simp [Fr.gs, Fr.more]
theorem more_less (F : Fr) (hF : F.ok = true) (r : Rd) (ra : Option Addr) (rc : Nat) {c : Nat} (hc : c < F.ws.length) (first : Prop) : Less F (F.more r ra rc) c first := by
  refine Wider.less (F := F) (Q := F.more r ra rc) ⟨Int.le_refl _, Int.le_refl _, rfl, by rw [more_gs]; simp, fun i hi n h => ?_⟩ hF hc first (fun _ hQ => wrong_one hF hQ rfl rfl _ (more_gs F r ra rc))
  rw [more_gs, List.getElem?_append_left hi] at h
  exact h
/-- The first n of a reading's part is narrower. -/
def nrw (r : Rd) : Rd := (r.1, r.2.1, max r.2.1 (r.2.2 - 1))
theorem nrw_right {x p q n : Int} (hx : 1 ≤ x) (hv : vPart p q = true) (h : rightB (x, p, max p (q - 1)) n = true) : rightB (x, p, q) n = true := by
  obtain ⟨b0, b1⟩ := partI_bd (wv := x) (n := n) hx
  simp only [vPart, decide_eq_true_eq] at hv
  unfold rightB plainB roundB at *
  dsimp only at *
  generalize partI x n = P at *
  split at h <;> split <;> simp only [decide_eq_true_eq] at * <;> omega
def Fr.nar (F : Fr) (j : Nat) (ra : Option Addr) (rc : Nat) : Fr := ⟨F.wa, F.wc, F.ws, F.lo, F.hi, ra, rc, F.rs.set j (nrw (F.rs[j]?.getD (0, 0, 0)))⟩
theorem nar_less (F : Fr) (hF : F.ok = true) (j : Nat) (ra : Option Addr) (rc : Nat) {c : Nat} (hc : c < F.ws.length) : Less F (F.nar j ra rc) c False := by
  refine Wider.less (F := F) (Q := F.nar j ra rc) ⟨Int.le_refl _, Int.le_refl _, rfl, by simp [Fr.gs, Fr.nar], fun i hi n h => ?_⟩ hF hc False (fun h _ => h.elim)
  rw [F.gs_len] at hi
  have e1 : F.gs[i]?.getD (0, 0, 0) = rgOf F.ws (F.rs[i]?.getD (0, 0, 0)) := by simp [Fr.gs, List.getElem?_eq_getElem hi]
  have e2 : (F.nar j ra rc).gs[i]?.getD (0, 0, 0) = rgOf F.ws ((F.rs.set j (nrw (F.rs[j]?.getD (0, 0, 0))))[i]?.getD (0, 0, 0)) := by
    have : i < (F.rs.set j (nrw (F.rs[j]?.getD (0, 0, 0)))).length := by simpa using hi
    show ((F.rs.set j (nrw (F.rs[j]?.getD (0, 0, 0)))).map (rgOf F.ws))[i]?.getD (0, 0, 0) = _
    generalize F.rs.set j (nrw (F.rs[j]?.getD (0, 0, 0))) = l at this ⊢
    simp [List.getElem?_eq_getElem this]
  rw [e1]
  rw [e2] at h
  by_cases e : j = i
  · subst e
    rw [List.getElem?_set_self hi, Option.getD_some] at h
    obtain ⟨i1, i2, i3⟩ := F.rd_in hF hi
    have hw := F.wave_in hF (c := (F.rs[j]?.getD (0, 0, 0)).1.toNat) (by omega)
    exact nrw_right (by omega) i3 h
  · rw [List.getElem?_set_ne e] at h
    exact h
def Fr.cut (F : Fr) (d : Int) (ra : Option Addr) (rc : Nat) (wa : Option Addr) (wc : Nat) : Fr := ⟨wa, wc, F.ws, min F.hi (F.lo + 1 + d), F.hi, ra, rc, F.rs⟩
theorem cut_less (F : Fr) (hF : F.ok = true) (d : Int) (hd : 0 ≤ d) (ra : Option Addr) (rc : Nat) (wa : Option Addr) (wc : Nat) {c : Nat} (hc : c < F.ws.length) : Less F (F.cut d ra rc wa wc) c False := by
  have hl := F.len_in hF
  exact Wider.less (F := F) (Q := F.cut d ra rc wa wc) ⟨by show F.lo ≤ min F.hi (F.lo + 1 + d); omega, Int.le_refl _, rfl, Nat.le_refl _, fun i hi n h => h⟩ hF hc False (fun h _ => h.elim)
/-- The fringe with its readings and its colours turned round. -/
def turnR (n : Nat) (r : Rd) : Rd := ((n : Int) - 1 - r.1, r.2.1, r.2.2)
def Fr.turn (F : Fr) (wa : Option Addr) (wc : Nat) (ra : Option Addr) (rc : Nat) : Fr := ⟨wa, wc, F.ws.reverse, F.lo, F.hi, ra, rc, (F.rs.map (turnR F.ws.length)).reverse⟩
theorem turn_at (F : Fr) {c : Nat} (hc : c < F.ws.length) : F.ws.reverse[F.ws.length - 1 - c]?.getD 0 = F.ws[c]?.getD 0 := by
  rw [List.getElem?_reverse (by omega), show F.ws.length - 1 - (F.ws.length - 1 - c) = c by omega]
section
variable (F : Fr) (hF : F.ok = true) (wa : Option Addr) (wc : Nat) (ra : Option Addr) (rc : Nat)
include hF
theorem turn_ok : (F.turn wa wc ra rc).ok = true := by
  have h := hF
  simp only [Fr.ok, vFringe, vWaves, vReads, Bool.and_eq_true, decide_eq_true_eq, List.all_eq_true, Fr.turn] at h ⊢
  obtain ⟨⟨⟨h1, h2⟩, h3⟩, h4, h5⟩ := h
  refine ⟨⟨⟨by simpa using h1, fun x hx => h2 x (List.mem_reverse.1 hx)⟩, h3⟩, by simpa using h4, fun r hr => ?_⟩
  obtain ⟨s, hs, rfl⟩ := List.mem_map.1 (List.mem_reverse.1 hr)
  have := h5 s hs
  simp only [vRead, Bool.and_eq_true, decide_eq_true_eq, turnR, List.length_reverse] at this ⊢
  exact ⟨by omega, this.2⟩
theorem turn_gs : (F.turn wa wc ra rc).gs = F.gs.reverse := by
  simp only [Fr.gs, Fr.turn, List.map_reverse, List.map_map]
  congr 1
  apply List.map_congr_left
  intro r hr
  obtain ⟨i, hi, rfl⟩ := List.getElem_of_mem hr
  have h := F.rd_in hF hi
  rw [List.getElem?_eq_getElem hi, Option.getD_some] at h
  simp only [Function.comp_apply, rgOf, turnR]
  have e := turn_at F (c := (F.rs[i]).1.toNat) (by omega)
  rw [← e, show ((F.ws.length : Int) - 1 - (F.rs[i]).1).toNat = F.ws.length - 1 - (F.rs[i]).1.toNat by omega]
theorem turn_truths : (F.turn wa wc ra rc).truths = F.truths := rev_truths rfl rfl (turn_gs F hF wa wc ra rc)
theorem turn_lens : lenL (F.turn wa wc ra rc) = lenL F ∧ lenE (F.turn wa wc ra rc) = lenE F := by
  simp [lenL, lenE, turn_ok F hF wa wc ra rc, hF, turn_truths F hF wa wc ra rc]
theorem turn_count : countR (F.turn wa wc ra rc) = countR F := by
  simp [countR, turn_ok F hF wa wc ra rc, hF, turn_truths F hF wa wc ra rc]
theorem turn_colE {c : Nat} (hc : c < F.ws.length) : colE (F.turn wa wc ra rc) ((F.ws.length - 1 - c : Nat) : Int) = colE F c := by
  rw [colE_is _ (turn_ok F hF wa wc ra rc) (by simp [Fr.turn]; omega), colE_is F hF hc, turn_truths F hF wa wc ra rc]
theorem turn_parS {c : Nat} (hc : c < F.ws.length) : parS (F.turn wa wc ra rc) ((F.ws.length - 1 - c : Nat) : Int) = parS F c := by
  rw [parS, parS, turn_colE F hF wa wc ra rc hc, turn_truths F hF wa wc ra rc, Int.toNat_natCast, Int.toNat_natCast]
  have e : (F.turn wa wc ra rc).ws = F.ws.reverse := rfl
  rw [e, turn_at F hc]
theorem turn_wn : (F.turn wa wc ra rc).wn = F.wn := rev_wn hF (turn_ok F hF wa wc ra rc) rfl rfl (turn_gs F hF wa wc ra rc)
theorem turn_period : periodR (F.turn wa wc ra rc) = periodR F := by
  rw [periodR, periodR, if_pos hF, if_pos (turn_ok F hF wa wc ra rc)]
  have e : (F.turn wa wc ra rc).ws = F.ws.reverse := rfl
  rw [e, rev_period]
end
end Go.Proofs.Ytoidnbpbeblokaa
