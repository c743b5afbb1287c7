/-
  WARM: the numbers of WarmTrue: what a truth and right readings give is within all that is told.
-/
import Derived.Test.YtmhpgjlegajpeaaG5
namespace Go.Proofs.Ytmhpgjlegajpeaa
open Go.RowKit

/-- How wide a right reading is: as wide as another one, but by no more than 40. -/
def wdR (r : Wr) : Int := min 40 (r.2.2.2 - r.2.2.1)
/-- The right reading of a block at a warmth, as warm and as wide as another one. -/
def trR (m l c : Int) (p : Wr × Int) : Wr := (p.1.1, p.1.2.1, shI m l c p.2 - wdR p.1 / 2, shI m l c p.2 + wdR p.1 - wdR p.1 / 2)
/-- Are readings right, each at a warmth of its own? -/
def Rts (ps : List (Wr × Int)) : Prop := ∀ p ∈ ps, p.1.1 ≤ p.2 ∧ p.2 ≤ p.1.2.1
/-- The block with right readings. -/
def trB (B : Wm) (l c : Int) (ps : List (Wr × Int)) (ra : Option Addr) (rc : Nat) : Wm := ⟨B.mark, B.llo, B.lhi, B.clo, B.chi, ra, rc, ps.map (trR B.mark l c)⟩
theorem warms_mem {m : Int} {p : Int × Int} {r : Wr} {t : Int} : t ∈ warms m p r ↔ (r.1 ≤ t ∧ t ≤ r.2.1) ∧ r.2.2.1 ≤ shI m p.1 p.2 t ∧ shI m p.1 p.2 t ≤ r.2.2.2 := by
  unfold warms warmsTo
  rw [List.mem_filter, List.mem_map, hitB, decide_eq_true_eq]
  unfold shP
  constructor
  · rintro ⟨⟨i, hi, rfl⟩, h⟩
    rw [List.mem_range] at hi
    exact ⟨by omega, h⟩
  · rintro ⟨h1, h2⟩
    refine ⟨⟨(t - r.1).toNat, by rw [List.mem_range]; omega, by omega⟩, h2⟩
theorem vWr_facts {r : Wr} (h : vWr r = true) : (-100 ≤ r.1 ∧ r.1 ≤ r.2.1 ∧ r.2.1 ≤ 100) ∧ r.2.1 - r.1 ≤ 4 ∧ -30000 ≤ r.2.2.1 ∧ r.2.2.1 ≤ r.2.2.2 ∧ r.2.2.2 ≤ 30000 := by
  simp only [vWr, Bool.and_eq_true, decide_eq_true_eq, inS] at h
  omega
theorem sh_bound {m l c t : Int} (m1 : 1 ≤ m) (m2 : m ≤ 100) (l1 : -1000 ≤ l) (l2 : l ≤ 1000) (c1 : 0 ≤ c) (c2 : c ≤ 20) (t1 : -100 ≤ t) (t2 : t ≤ 100) : -21000 ≤ shI m l c t ∧ shI m l c t ≤ 21000 := by
  obtain ⟨⟨p1, p2⟩, q1, q2⟩ := mct_bd m1 m2 c1 c2 (show -101 ≤ t by omega) (show t ≤ 101 by omega)
  have h3 := Int.mul_le_mul_of_nonneg_left t2 (Int.mul_nonneg (show 0 ≤ m by omega) c1)
  have h4 := Int.mul_le_mul_of_nonneg_left t1 (Int.mul_nonneg (show 0 ≤ m by omega) c1)
  have h5 : m * c ≤ 2000 := by
    have h6 := Int.mul_le_mul_of_nonneg_left c2 (show 0 ≤ m by omega)
    omega
  unfold shI
  omega
section
variable {B : Wm} {l c : Int} {ps : List (Wr × Int)} (hok : B.ok = true) (hps : ps.map (·.1) = B.rs) (hr : Rts ps) (hl : B.llo ≤ l ∧ l ≤ B.lhi) (hc : B.clo ≤ c ∧ c ≤ B.chi) (ra : Option Addr) (rc : Nat)
include hok hps hr hl hc
theorem trB_ok : (trB B l c ps ra rc).ok = true := by
  obtain ⟨hn, hw⟩ := vWrs_at (Wm.ok_reads hok)
  obtain ⟨m1, m2, l1, l2, l3, l4, c1, c2, c3, c4⟩ := Wm.ok_lim hok
  simp only [Wm.ok, Bool.and_eq_true, decide_eq_true_eq] at hok
  unfold Wm.ok trB
  dsimp only
  simp only [Bool.and_eq_true, decide_eq_true_eq]
  refine ⟨hok.1, ?_⟩
  unfold vWrs
  simp only [Bool.and_eq_true, decide_eq_true_eq]
  have hlen : ps.length = B.rs.length := by rw [← hps, List.length_map]
  refine ⟨by rw [List.length_map]; omega, List.all_eq_true.2 fun r hr' => ?_⟩
  obtain ⟨p, hp, rfl⟩ := List.mem_map.1 hr'
  have hv := vWr_facts (hw p.1 (by rw [← hps]; exact List.mem_map_of_mem hp))
  have ht := hr p hp
  have hb := sh_bound (l := l) (c := c) (t := p.2) m1 m2 (by omega) (by omega) (by omega) (by omega) (by omega) (by omega)
  have h40 : 0 ≤ wdR p.1 ∧ wdR p.1 ≤ 40 := by unfold wdR; omega
  unfold vWr trR inS
  dsimp only
  simp only [Bool.and_eq_true, decide_eq_true_eq]
  omega
/-- What the block truly is, is a truth. -/
theorem trB_in : ∃ p : Pr, p.1 = (l, c) ∧ p ∈ (trB B l c ps ra rc).truths := by
  obtain ⟨hn, hw⟩ := vWrs_at (Wm.ok_reads hok)
  have hL := Wm.ok_lim hok
  obtain ⟨m1, m2, l1, l2, l3, l4, c1, c2, c3, c4⟩ := hL
  refine ⟨⟨(l, c), by constructor <;> dsimp only <;> omega⟩, rfl, ?_⟩
  have ho := trB_ok hok hps hr hl hc ra rc
  refine List.mem_filter.2 ⟨(Wm.mem_all (Wm.ok_lim ho)).2 ⟨hl, hc⟩, List.all_eq_true.2 fun r hr' => ?_⟩
  obtain ⟨p, hp, rfl⟩ := List.mem_map.1 hr'
  have hv := vWr_facts (hw p.1 (by rw [← hps]; exact List.mem_map_of_mem hp))
  have ht := hr p hp
  have hm : p.2 ∈ warms (trB B l c ps ra rc).mark (l, c) (trR B.mark l c p) := by
    refine warms_mem.2 ⟨ht, ?_⟩
    unfold trR trB
    dsimp only
    have : 0 ≤ wdR p.1 := by unfold wdR; omega
    omega
  unfold canB
  cases h : (warms (trB B l c ps ra rc).mark (l, c) (trR B.mark l c p)) with
  | nil => rw [h] at hm; cases hm
  | cons a l => rfl
theorem trB_some : (trB B l c ps ra rc).truths.isEmpty = false := by
  obtain ⟨p, _, hp⟩ := trB_in hok hps hr hl hc ra rc
  cases h : (trB B l c ps ra rc).truths with
  | nil => rw [h] at hp; cases hp
  | cons a l => rfl
theorem trB_len : ∃ u v, (trB B l c ps ra rc).lenA = ((u, v), 0) ∧ u ≤ l ∧ l ≤ v := by
  obtain ⟨p, he, hp⟩ := trB_in hok hps hr hl hc ra rc
  refine ⟨_, _, say_yes (trB_ok hok hps hr hl hc ra rc) (trB_some hok hps hr hl hc ra rc), ?_, ?_⟩
  · exact (foldl_min _ _).2.2 l (List.mem_map.2 ⟨p, hp, by rw [he]⟩)
  · exact (foldl_max _ _).2.2 l (List.mem_map.2 ⟨p, hp, by rw [he]⟩)
theorem trB_coeff : ∃ u v, (trB B l c ps ra rc).coeffA = ((u, v), 0) ∧ u ≤ c ∧ c ≤ v := by
  obtain ⟨p, he, hp⟩ := trB_in hok hps hr hl hc ra rc
  refine ⟨_, _, say_yes (trB_ok hok hps hr hl hc ra rc) (trB_some hok hps hr hl hc ra rc), ?_, ?_⟩
  · exact (foldl_min _ _).2.2 c (List.mem_map.2 ⟨p, hp, by rw [he]⟩)
  · exact (foldl_max _ _).2.2 c (List.mem_map.2 ⟨p, hp, by rw [he]⟩)
theorem trB_count : ∃ n : Int, (trB B l c ps ra rc).countA = (n, 0) ∧ 1 ≤ n := by
  refine ⟨((trB B l c ps ra rc).truths.length : Int), ?_, ?_⟩
  · unfold Wm.countA; rw [if_pos (trB_ok hok hps hr hl hc ra rc)]
  · obtain ⟨p, _, hp⟩ := trB_in hok hps hr hl hc ra rc
    have := List.length_pos_of_mem hp
    omega
theorem trB_held {k : Nat} (hk : k < ps.length) : ∃ u v, (trB B l c ps ra rc).heldA k = ((u, v), 0) ∧ u ≤ (ps[k]).2 ∧ (ps[k]).2 ≤ v := by
  obtain ⟨hn, hw⟩ := vWrs_at (Wm.ok_reads hok)
  obtain ⟨p, he, hp⟩ := trB_in hok hps hr hl hc ra rc
  have hpk : ps[k] ∈ ps := List.getElem_mem hk
  have hv := vWr_facts (hw (ps[k]).1 (by rw [← hps]; exact List.mem_map_of_mem hpk))
  have hg : (trB B l c ps ra rc).rs[k]?.getD (0, 0, 0, 0) = trR B.mark l c ps[k] := by
    unfold trB
    simp [List.getElem?_eq_getElem hk]
  have hm : (ps[k]).2 ∈ (trB B l c ps ra rc).heldL k := by
    refine List.mem_flatMap.2 ⟨p, hp, ?_⟩
    rw [hg, he]
    refine warms_mem.2 ⟨hr _ hpk, ?_⟩
    unfold trR trB
    dsimp only
    have : 0 ≤ wdR (ps[k]).1 := by unfold wdR; omega
    omega
  refine ⟨loI ((trB B l c ps ra rc).heldL k), hiI ((trB B l c ps ra rc).heldL k), ?_, (foldl_min _ _).2.2 _ hm, (foldl_max _ _).2.2 _ hm⟩
  unfold Wm.heldA
  rw [if_pos ⟨by omega, by unfold trB; simp; omega⟩, say_yes (trB_ok hok hps hr hl hc ra rc) (trB_some hok hps hr hl hc ra rc), Int.toNat_natCast]
theorem trB_shows {lo hi : Int} (h0 : -100 ≤ lo) (h1 : lo ≤ hi) (h2 : hi ≤ 100) : ∃ u v, (trB B l c ps ra rc).showsA lo hi = ((u, v), 0) ∧ u ≤ shI B.mark l c lo ∧ shI B.mark l c lo ≤ v := by
  obtain ⟨p, he, hp⟩ := trB_in hok hps hr hl hc ra rc
  obtain ⟨u, v, hs, hE, _, _⟩ := shows_ends (trB_ok hok hps hr hl hc ra rc) (trB_some hok hps hr hl hc ra rc) h0 h1 h2
  have := hE.2.2 (shI B.mark l c lo) ⟨p, hp, lo, ⟨Int.le_refl _, h1⟩, by rw [he]; rfl⟩
  exact ⟨u, v, hs, this⟩
theorem trB_room {off : Int} (h0 : 0 ≤ off) (h1 : off ≤ 30000) : ∃ n : Int, (trB B l c ps ra rc).roomA off = (n, 0) ∧ 0 ≤ n ∧ n ≤ 100 ∧ ∀ k, -n ≤ k → k ≤ n → -off ≤ shI B.mark l c k - l ∧ shI B.mark l c k - l ≤ off := by
  obtain ⟨p, he, hp⟩ := trB_in hok hps hr hl hc ra rc
  obtain ⟨m1, m2, _, _, _, _, c1, _, _, _⟩ := Wm.ok_lim hok
  refine ⟨(widest B.mark off (trB B l c ps ra rc).truths : Int), ?_, by omega, by have := widest_le B.mark off (trB B l c ps ra rc).truths; omega, fun k k1 k2 => ?_⟩
  · unfold Wm.roomA
    rw [if_pos ⟨h0, h1⟩, say_yes (trB_ok hok hps hr hl hc ra rc) (trB_some hok hps hr hl hc ra rc)]
    rfl
  · have a1 := room_in (m := B.mark) (off := off) hp m1 h0 _ (.inl rfl)
    have a2 := room_in (m := B.mark) (off := off) hp m1 h0 _ (.inr rfl)
    rw [he] at a1 a2
    dsimp only at a1 a2
    have b1 := sh_up (m := B.mark) (L := l) (c := c) (by omega) (by omega) k1
    have b2 := sh_up (m := B.mark) (L := l) (c := c) (by omega) (by omega) k2
    omega
end
end Go.Proofs.Ytmhpgjlegajpeaa
