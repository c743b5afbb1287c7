/-
  LAW: PairTrue: what is told of a pair of which a truth is known.
-/
import Derived.Test.YthnhcacoegmdfaaHH1
import Derived.Test.YthnhcacoegmdfaaHF8
namespace Go.Proofs.Ythnhcacoegmdfaa
open Go.RowKit Go.Proofs.Try


theorem bits_none : ∀ {s : Nat}, s < 256 → bitsN s = 0 → s = 0 := by decide +kernel
/-- A pair of which this is the truth: comparator and deviations. -/
structure Made (p : Pr) (c : Int × Int) (ds : List Int) : Prop where
  fine : p.Fine
  len : ds.length = p.bs.length
  comp : c ∈ p.n.comps
  blk : ∀ i, i < p.bs.length → (elB p.bs i).1 ≤ elU ds i ∧ elU ds i ≤ (elB p.bs i).2
  rd : ∀ r ∈ p.rs, r.2.2.2.1 ≤ elU ds r.1.toNat - elU ds r.2.1.toNat + shw c r.2.2.1 ∧ elU ds r.1.toNat - elU ds r.2.1.toNat + shw c r.2.2.1 ≤ r.2.2.2.2
def xT (n : Nat) (ds : List Int) (i : Nat) : Int := if i < n then elU ds i else if i = 5 then 0 else -20
theorem xT_in {n : Nat} {ds : List Int} {i : Nat} (h : i < n) : xT n ds i = elU ds i := if_pos h
section
variable {p : Pr} {c : Int × Int} {ds : List Int} (h : Made p c ds)
include h
theorem Made.tr : p.n.Tr c (xT p.bs.length ds) := by
  have h5 := h.fine.b5
  refine ⟨?_, fun i hi => ?_, fun r hr => ?_⟩
  · unfold xT
    rw [if_neg (by omega), if_pos rfl]
  · by_cases hb : i < p.bs.length
    · rw [xT_in hb, elB_nat hb]
      exact h.blk i hb
    · have e : p.n.blk i = (-20, -20) := by
        unfold Prn.blk
        rw [List.getElem?_eq_none (by show p.bs.length ≤ i; omega)]
        rfl
      rw [e]
      unfold xT
      rw [if_neg hb, if_neg (by omega)]
      exact ⟨Int.le_refl _, Int.le_refl _⟩
  · obtain ⟨q, hq, rfl⟩ := List.mem_map.1 hr
    obtain ⟨k, hk, rfl⟩ := List.getElem_of_mem hq
    have h1 := h.fine.rd k hk
    rw [elR_at (List.getElem?_eq_getElem hk)] at h1
    have h2 := h.rd _ hq
    unfold Rw.n
    dsimp only
    rw [xT_in (by omega), xT_in (by omega)]
    exact h2
theorem Made.known : p.n.known.isEmpty = false := some_known h.fine.ok (so := fun _ _ => True) ⟨c, h.comp, _, h.tr, trivial⟩
theorem Made.differ {a b : Nat} (ha : a < p.bs.length) (hb : b < p.bs.length) : (p.n.differA a b).1 ≤ elU ds a - elU ds b ∧ elU ds a - elU ds b ≤ (p.n.differA a b).2 := by
  have h5 := h.fine.b5
  have := (Prn.differA_is h.fine.ok (ne_nil h.known) (a := a) (b := b) (by omega) (by omega)).1 c h.comp _ h.tr
  rwa [xT_in ha, xT_in hb] at this
theorem Made.own {a : Nat} (ha : a < p.bs.length) : ((p.n.differA a 5).1 ≤ elU ds a ∧ elU ds a ≤ (p.n.differA a 5).2) ∧ (elB p.bs a).1 ≤ (p.n.differA a 5).1 ∧ (p.n.differA a 5).2 ≤ (elB p.bs a).2 := by
  have h5 := h.fine.b5
  obtain ⟨h1, ⟨c1, _, x1, t1, e1⟩, ⟨c2, _, x2, t2, e2⟩⟩ := Prn.differA_is h.fine.ok (ne_nil h.known) (a := a) (b := 5) (by omega) (by omega)
  have h1 := h1 c h.comp _ h.tr
  rw [xT_in ha, h.tr.mark] at h1
  have b1 := t1.blk a (by omega)
  have b2 := t2.blk a (by omega)
  rw [elB_nat ha] at b1 b2
  have m1 := t1.mark
  have m2 := t2.mark
  omega
theorem Made.shows (m : Int) : (p.n.showsA m).1 ≤ shw c m ∧ shw c m ≤ (p.n.showsA m).2 := by
  obtain ⟨g, hg⟩ := Option.isSome_iff_exists.1 ((Prn.left_is h.fine.ok c).2 ⟨_, h.tr⟩)
  have hm : (shw c m, shw c m) ∈ p.n.known.map fun k => (shw k.1 m, shw k.1 m) := List.mem_map.2 ⟨(c, g), Prn.mem_known.2 ⟨h.comp, hg⟩, rfl⟩
  exact ⟨(hullS_min _ hull0).2.1 _ hm, (hullS_max _ hull0).2.1 _ hm⟩
theorem Made.can {a : Nat} (ha : a < p.bs.length) (hl : ∀ o, o < p.bs.length → elU ds o ≤ elU ds a) : p.n.longA.2.testBit a = true := by
  have h5 := h.fine.b5
  refine (Prn.perhaps_all h.fine.ok ha h5).2 ⟨c, h.comp, _, h.tr, fun o ho => ?_⟩
  rw [xT_in ha]
  by_cases hb : o < p.bs.length
  · rw [xT_in hb]
    exact hl o hb
  · have := h.blk a ha
    have := h.fine.bl a ha
    unfold xT
    rw [if_neg hb, if_neg (by omega)]
    omega
theorem Made.sure {a b : Nat} (ha : a < p.bs.length) (hb : b < p.bs.length) (hl : elU ds a < elU ds b) : p.n.longA.1.testBit a = false := by
  have h5 := h.fine.b5
  cases e : p.n.longA.1.testBit a with
  | false => rfl
  | true =>
    have := (Prn.surely_all h.fine.ok ha h5).1 e c h.comp _ h.tr b (by omega)
    rw [xT_in ha, xT_in hb] at this
    omega
theorem Made.none : p.n.wrongL = 0 := by
  have h8 := h.fine.r8
  have h1 := wrong_zero h.fine
  have h2 : p.n.agreeB = true := by unfold Prn.agreeB; rw [h.known]; rfl
  rw [h2] at h1
  have h3 := of_decide_eq_true h1.symm
  have h4 := (wrong_all h.fine).1
  have h5 := pow_le5 h8
  exact bits_none (by omega) h3
end
end Go.Proofs.Ythnhcacoegmdfaa
