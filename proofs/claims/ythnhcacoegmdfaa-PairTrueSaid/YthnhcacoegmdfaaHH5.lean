/-
  LAW: PairTrue: the pair that is made has the truth that it was made by.
-/
import Derived.Test.YthnhcacoegmdfaaHH4
namespace Go.Proofs.Ythnhcacoegmdfaa
open Go.RowKit Go.Proofs.Try


def mkZ (L : List Int) (i : Nat) : Int := dw L i 21 - 10
def mkT (L : List Int) (i : Nat) : Int := dw L (i + 1) 11 - 5
/-- The pair that is made. -/
def mkP (L : List Int) (i j r : Nat) (ba : Option Addr) (bc : Nat) (ra : Option Addr) (rc : Nat) : Pr :=
  ⟨ba, bc, bsL L (i + 7) j, max (-10) (mkZ L i - dw L (i + 2) 3), min 10 (mkZ L i + dw L (i + 3) 3), max (-5) (mkT L i - dw L (i + 4) 2), min 5 (mkT L i + dw L (i + 5) 2), ra, rc, rsL L (i + 7 + 4 * j + 1) (j : Int) (mkZ L i) (mkT L i) (dsL L (i + 7) j) r⟩
theorem other_one {a x j : Int} (h1 : 0 ≤ a) (h2 : a < j) (h3 : 0 ≤ x) (h4 : x < j - 1) : 0 ≤ (a + 1 + x) % j ∧ (a + 1 + x) % j < j ∧ (a + 1 + x) % j ≠ a := by
  refine ⟨Int.emod_nonneg _ (by omega), Int.emod_lt_of_pos _ (by omega), ?_⟩
  by_cases h : a + 1 + x < j
  · rw [Int.emod_eq_of_lt (by omega) h]
    omega
  · rw [← Int.sub_emod_right, Int.emod_eq_of_lt (by omega) (by omega)]
    omega
theorem elB_mk (L : List Int) (i : Nat) {j k : Nat} (h : k < j) : elB (bsL L i j) k = blF L i k := by
  unfold elB bsL
  rw [List.getElem?_map, List.getElem?_range h]
  rfl
theorem elR_mk (L : List Int) (k : Nat) (n z rt : Int) (ds : List Int) {r q : Nat} (h : q < r) : elR (rsL L k n z rt ds r) q = mkR L k n z rt ds q := by
  unfold elR rsL
  rw [List.getElem?_map, List.getElem?_range h]
  rfl
theorem blF_bd (L : List Int) (i k : Nat) : -20 ≤ (blF L i k).1 ∧ (blF L i k).1 ≤ dvF L i k ∧ dvF L i k ≤ (blF L i k).2 ∧ (blF L i k).2 ≤ 20 := by
  have h1 := dw_bd L (i + 4 * k) (n := 41) (by omega)
  have h2 := dw_bd L (i + 4 * k + 1) (n := 20) (by omega)
  have h3 := dw_bd L (i + 4 * k + 2) (n := wdF L i k) (by unfold wdF; omega)
  have h4 := dw_bd L (i + 4 * k + 3) (n := wdF L i k) (by unfold wdF; omega)
  have h5 : dvF L i k = dw L (i + 4 * k) 41 - 20 := rfl
  unfold blF
  dsimp only
  omega
theorem mkR_bd (L : List Int) (i k j : Nat) (z rt : Int) (hj : 2 ≤ j) (z1 : -10 ≤ z) (z2 : z ≤ 10) (r1 : -5 ≤ rt) (r2 : rt ≤ 5) (q : Nat) : ∃ a b : Nat, a < j ∧ b < j ∧ a ≠ b ∧ (mkR L k (j : Int) z rt (dsL L i j) q).1 = a ∧ (mkR L k (j : Int) z rt (dsL L i j) q).2.1 = b ∧ (0 ≤ (mkR L k (j : Int) z rt (dsL L i j) q).2.2.1 ∧ (mkR L k (j : Int) z rt (dsL L i j) q).2.2.1 ≤ 60) ∧
    -80 ≤ (mkR L k (j : Int) z rt (dsL L i j) q).2.2.2.1 ∧ (mkR L k (j : Int) z rt (dsL L i j) q).2.2.2.1 ≤ elU (dsL L i j) a - elU (dsL L i j) b + shw (z, rt) (mkR L k (j : Int) z rt (dsL L i j) q).2.2.1 ∧ elU (dsL L i j) a - elU (dsL L i j) b + shw (z, rt) (mkR L k (j : Int) z rt (dsL L i j) q).2.2.1 ≤ (mkR L k (j : Int) z rt (dsL L i j) q).2.2.2.2 ∧ (mkR L k (j : Int) z rt (dsL L i j) q).2.2.2.2 ≤ 80 := by
  have h1 := dw_bd L (k + 5 * q) (n := (j : Int)) (by omega)
  have h2 := dw_bd L (k + 5 * q + 1) (n := (j : Int) - 1) (by omega)
  have h3 := dw_bd L (k + 5 * q + 2) (n := 61) (by omega)
  have h4 := dw_bd L (k + 5 * q + 3) (n := 3) (by omega)
  have h5 := dw_bd L (k + 5 * q + 4) (n := 3) (by omega)
  have h6 := other_one h1.1 h1.2 h2.1 h2.2
  have h7 := shw_in (c := (z, rt)) (m := dw L (k + 5 * q + 2) 61) z1 z2 r1 r2 (by omega) (by omega)
  obtain ⟨a, ha⟩ := Int.eq_ofNat_of_zero_le h1.1
  obtain ⟨b, hb⟩ := Int.eq_ofNat_of_zero_le h6.1
  have u0 := dsL_bd L i (j := j) (q := a) (by omega)
  have u1 := dsL_bd L i (j := j) (q := b) (by omega)
  have e : mkR L k (j : Int) z rt (dsL L i j) q = ((a : Int), (b : Int), dw L (k + 5 * q + 2) 61, max (-80) (elU (dsL L i j) a - elU (dsL L i j) b + shw (z, rt) (dw L (k + 5 * q + 2) 61) - dw L (k + 5 * q + 3) 3), min 80 (elU (dsL L i j) a - elU (dsL L i j) b + shw (z, rt) (dw L (k + 5 * q + 2) 61) + dw L (k + 5 * q + 4) 3)) := by
    unfold mkR
    dsimp only
    rw [hb, ha, Int.toNat_natCast, Int.toNat_natCast]
  rw [e]
  dsimp only
  exact ⟨a, b, by omega, by omega, by omega, rfl, rfl, by omega, by omega, by omega, by omega, by omega⟩
theorem mkP_made (L : List Int) (i j r : Nat) (ba : Option Addr) (bc : Nat) (ra : Option Addr) (rc : Nat) (hj1 : 1 ≤ j) (hj5 : j ≤ 5) (hr : r ≤ 8) (hrj : r = 0 ∨ 2 ≤ j) : Made (mkP L i j r ba bc ra rc) (mkZ L i, mkT L i) (dsL L (i + 7) j) := by
  have a0 := dw_bd L i (n := 21) (by omega)
  have a1 := dw_bd L (i + 1) (n := 11) (by omega)
  have a2 := dw_bd L (i + 2) (n := 3) (by omega)
  have a3 := dw_bd L (i + 3) (n := 3) (by omega)
  have a4 := dw_bd L (i + 4) (n := 2) (by omega)
  have a5 := dw_bd L (i + 5) (n := 2) (by omega)
  have ez : mkZ L i = dw L i 21 - 10 := rfl
  have et : mkT L i = dw L (i + 1) 11 - 5 := rfl
  have hb : (mkP L i j r ba bc ra rc).bs.length = j := bsL_len _ _ _
  have hl : (mkP L i j r ba bc ra rc).rs.length = r := rsL_len _ _ _ _ _ _ _
  refine ⟨⟨by omega, by omega, fun k hk => ?_, ?_, ?_, ?_, ?_, by omega, fun k hk => ?_⟩, by rw [hb]; exact dsL_len _ _ _, ?_, fun k hk => ?_, fun x hx => ?_⟩
  · have := blF_bd L (i + 7) k
    rw [show elB (mkP L i j r ba bc ra rc).bs k = blF L (i + 7) k from elB_mk L (i + 7) (by omega)]
    omega
  · show -10 ≤ max (-10) (mkZ L i - dw L (i + 2) 3) ∧ max (-10) (mkZ L i - dw L (i + 2) 3) ≤ min 10 (mkZ L i + dw L (i + 3) 3) ∧ min 10 (mkZ L i + dw L (i + 3) 3) ≤ 10
    omega
  · show min 10 (mkZ L i + dw L (i + 3) 3) - max (-10) (mkZ L i - dw L (i + 2) 3) ≤ 4
    omega
  · show -5 ≤ max (-5) (mkT L i - dw L (i + 4) 2) ∧ max (-5) (mkT L i - dw L (i + 4) 2) ≤ min 5 (mkT L i + dw L (i + 5) 2) ∧ min 5 (mkT L i + dw L (i + 5) 2) ≤ 5
    omega
  · show min 5 (mkT L i + dw L (i + 5) 2) - max (-5) (mkT L i - dw L (i + 4) 2) ≤ 4
    omega
  · obtain ⟨a, b, h1, h2, h3, h4, h5, h6, h7, h8, h9, h10⟩ := mkR_bd L (i + 7) (i + 7 + 4 * j + 1) j (mkZ L i) (mkT L i) (by omega) (by omega) (by omega) (by omega) (by omega) k
    rw [show elR (mkP L i j r ba bc ra rc).rs k = mkR L (i + 7 + 4 * j + 1) (j : Int) (mkZ L i) (mkT L i) (dsL L (i + 7) j) k from elR_mk _ _ _ _ _ _ (by omega), hb, h4, h5]
    exact ⟨by omega, by omega, by omega, h6, h7, Int.le_trans h8 h9, h10⟩
  · refine Prn.mem_comps.2 ⟨?_, ?_⟩
    · show max (-10) (mkZ L i - dw L (i + 2) 3) ≤ mkZ L i ∧ mkZ L i ≤ min 10 (mkZ L i + dw L (i + 3) 3)
      omega
    · show max (-5) (mkT L i - dw L (i + 4) 2) ≤ mkT L i ∧ mkT L i ≤ min 5 (mkT L i + dw L (i + 5) 2)
      omega
  · have := blF_bd L (i + 7) k
    rw [show elB (mkP L i j r ba bc ra rc).bs k = blF L (i + 7) k from elB_mk L (i + 7) (by omega)]
    unfold dsL
    rw [elU_map (by omega)]
    omega
  · obtain ⟨k, hk, rfl⟩ := List.mem_map.1 (show x ∈ (List.range r).map _ from hx)
    have hk := List.mem_range.1 hk
    obtain ⟨a, b, h1, h2, h3, h4, h5, h6, h7, h8, h9, h10⟩ := mkR_bd L (i + 7) (i + 7 + 4 * j + 1) j (mkZ L i) (mkT L i) (by omega) (by omega) (by omega) (by omega) (by omega) k
    rw [h4, h5, Int.toNat_natCast, Int.toNat_natCast]
    exact ⟨h8, h9⟩
end Go.Proofs.Ythnhcacoegmdfaa
