/-
  LAW: SettleWait: numbers.
-/
import Derived.Test.YtfjfkaaflghaiaaGh
import Derived.Test.YtfjfkaaflghaiaaHL1
namespace Go.Proofs.Ytfjfkaaflghaiaa
open Go.RowKit Go.Proofs.Try
attribute [local irreducible] Run wpK


/-- One that is so far has settled after some minutes, however slow it is. -/
def WS (B : Bk) (near a : Int) (i : Nat) : Prop := ∀ j, j < slW B → flP (slN B j) a i ≤ near
/-- A block alone, with just this excess, that nobody touches. -/
def alB (b : Bk) (x : Int) : Bk := (x, x, b.2.2.1, b.2.2.2.1, 0, 0)
def Sn.al (s : Sn) (b : Nat) (x l : Int) : Sn := ⟨[alB (elB s.bs b) x], s.near, l, []⟩
def Sb.al (p : Sb) (b : Nat) (x l : Int) (g : Nat) : Sb := ⟨some ⟨g, 0, none⟩, 1, [alB (elB p.bs b) x], p.near, l, none, 0, []⟩
theorem al_in {p : Sb} {b : Nat} {x l : Int} {g : Nat} {w : World} {ty : TypeId} {fr : Nat × Nat} (hg : w.heap[g]? = some (.cells (bkR (alB (elB p.bs b) x)).toArray ty fr)) : (p.al b x l g).In w :=
  ⟨Bks.of_flat (L := [alB (elB p.bs b) x]) (sp := []) (by show w.heap[g]? = some (.cells (([alB (elB p.bs b) x]).flatMap bkR ++ []).toArray ty fr); simpa using hg), fun h => absurd rfl h, by show 1 ≤ maxLen; simp only [maxLen]; omega, by show 0 ≤ maxLen; exact Nat.zero_le _⟩
theorem al_ok {s : Sn} (hF : s.Fine) {b : Nat} (hb : b < s.bs.length) {x l : Int} (hx : -100 ≤ x ∧ x ≤ 100) (hl : 1 ≤ l ∧ l ≤ 60) : (s.al b x l).ok = true := by
  have hs := (hF.bkF hb).s
  have hn := hF.nr
  unfold Sn.ok Sn.al
  dsimp only
  have h1 : vBk (alB (elB s.bs b) x) = true := by
    unfold vBk alB
    rw [show spI ((x, x, (elB s.bs b).2.2.1, (elB s.bs b).2.2.2.1, (0 : Int), (0 : Int)).1, (x, x, (elB s.bs b).2.2.1, (elB s.bs b).2.2.2.1, (0 : Int), (0 : Int)).2.1) (-100) 100 = true from decide_eq_true (by first | omega | (dsimp only; omega))]
    rw [show spI ((x, x, (elB s.bs b).2.2.1, (elB s.bs b).2.2.2.1, (0 : Int), (0 : Int)).2.2.1, (x, x, (elB s.bs b).2.2.1, (elB s.bs b).2.2.2.1, (0 : Int), (0 : Int)).2.2.2.1) 2 8 = true from decide_eq_true (by first | omega | (dsimp only; omega))]
    rfl
  rw [show [alB (elB s.bs b) x].all vBk = true from by rw [List.all_cons, h1]; rfl, show inI s.near 0 20 = true from decide_eq_true hn, show inI l 1 60 = true from decide_eq_true hl]
  rfl
theorem near_ab {n e a : Int} (h : abI e = a) : nrS n (e, e) ↔ a ≤ n := by
  unfold nrS abI at *
  dsimp only
  omega
theorem one_set {q : Sn} (hq : q.Fine) (h1 : q.bs.length = 1) (ht : q.ts = []) {B : Bk} {x : Int} (hB : elB q.bs 0 = B) (hx1 : B.1 = x) (hx2 : B.2.1 = x) {i : Nat} : q.set 0 i = true ↔ WS B q.near (abI x) i := by
  have hb : 0 < q.bs.length := by omega
  rw [set_iff hq hb, hB]
  unfold WS
  have hbk := hq.bkF hb
  rw [hB] at hbk
  refine forall_congr' fun j => forall_congr' fun hj => ?_
  have hk := slN_bd hbk hj
  have e1 : q.en 0 (slN B j) i = (endN x (fun _ => []) (slN B j) i, endN x (fun _ => []) (slN B j) i) := by
    unfold Sn.en Sn.lo Sn.hi
    rw [hB, hx1, hx2, ht]
    rfl
  rw [e1]
  exact near_ab (ab_end (by omega) (fun _ => rfl) i)
theorem un_set {s : Sn} (hF : s.Fine) {b : Nat} (hb : b < s.bs.length) {x : Int} (hx : -100 ≤ x ∧ x ≤ 100) {i : Nat} : (s.un b x).set 0 i = true ↔ WS (elB s.bs b) s.near (abI x) i :=
  one_set (un_fine hF hb hx) rfl rfl (B := unB (elB s.bs b) x) rfl rfl rfl
theorem al_set {s : Sn} (hF : s.Fine) {b : Nat} (hb : b < s.bs.length) {x l : Int} (hx : -100 ≤ x ∧ x ≤ 100) (hl : 1 ≤ l ∧ l ≤ 60) {i : Nat} : (s.al b x l).set 0 i = true ↔ WS (elB s.bs b) s.near (abI x) i :=
  one_set (Sn.fine (al_ok hF hb hx hl)) rfl rfl (B := alB (elB s.bs b) x) rfl rfl rfl
/-- What is told of how long to wait. -/
def WtIs (B : Bk) (near a : Int) (v e : Int) : Prop := e = 0 ∧ ∃ y : Nat, v = (y : Int) ∧ y ≤ 100 ∧ ∀ i, WS B near a i ↔ y ≤ i
theorem ab_bd {x : Int} (hx : -100 ≤ x ∧ x ≤ 100) : 0 ≤ abI x ∧ abI x ≤ 100 := by unfold abI; omega
theorem WS_up {B : Bk} (hB : BkF B) {near a : Int} (ha : 0 ≤ a) {i j : Nat} (h : WS B near a i) (hij : i ≤ j) : WS B near a j := by
  obtain ⟨d, rfl⟩ := Nat.exists_eq_add_of_le hij
  intro q hq
  have h1 := slN_bd hB hq
  exact Int.le_trans (flP_down (by omega) ha d) (h q hq)
theorem wait_is {s : Sn} {b : Nat} {x v e : Int} (hok : s.ok = true) (hb : b < s.bs.length) (hx : -100 ≤ x ∧ x ≤ 100) (e1 : inA (waitR s b x) = v) (e2 : erA (waitR s b x) = e) : WtIs (elB s.bs b) s.near (abI x) v e := by
  have hF := Sn.fine hok
  have hB := hF.bkF hb
  have ha := ab_bd hx
  have hn := hF.nr
  unfold waitR Sn.isB at e1 e2
  have i1 : inI (b : Int) 0 ((s.bs.length : Int) - 1) = true := decide_eq_true (by omega)
  have i3 : inI x (-100) 100 = true := decide_eq_true hx
  rw [hok, i1, i3] at e1 e2
  simp only [cond_true, Int.toNat_natCast] at e1 e2
  unfold fmR waitV at e1 e2
  have h100 : WS (elB s.bs b) s.near (abI x) 100 := fun j hj => by
    have h1 := slN_bd hB hj
    have h2 := flP_zero (k := slN (elB s.bs b) j) (by omega) ha.1 100
    omega
  rcases frN_is (pr := fun i => (s.un b x).set 0 i) (n := 100 + 1) with ⟨h1, h2⟩ | ⟨y, h1, hy, hp, h2⟩
  · have h3 := h2 100 (by omega)
    try dsimp only at h3
    rw [(un_set hF hb hx).2 h100] at h3
    cases h3
  · rw [h1] at e1 e2
    refine ⟨e2.symm, y, e1.symm, by omega, fun i => ⟨fun h => ?_, fun h => WS_up hB ha.1 ((un_set hF hb hx).1 hp) h⟩⟩
    by_cases hlt : y ≤ i
    · exact hlt
    · have h3 := h2 i (by omega)
      try dsimp only at h3
      rw [(un_set hF hb hx).2 h] at h3
      cases h3
theorem WtIs.same {B : Bk} {near a v e u d : Int} (h : WtIs B near a v e) (h2 : WtIs B near a u d) : u = v := by
  obtain ⟨_, y, rfl, _, hy⟩ := h
  obtain ⟨_, z, rfl, _, hz⟩ := h2
  have h1 := (hy z).1 ((hz z).2 (Nat.le_refl _))
  have h2 := (hz y).1 ((hy y).2 (Nat.le_refl _))
  omega
theorem WtIs.less {B : Bk} (hB : BkF B) {near a c v e u d : Int} (h : WtIs B near a v e) (h2 : WtIs B near c u d) (hca : c ≤ a) : u ≤ v := by
  obtain ⟨_, y, rfl, _, hy⟩ := h
  obtain ⟨_, z, rfl, _, hz⟩ := h2
  have h1 := (hz y).1 fun j hj => by
    have h1 := slN_bd hB hj
    exact Int.le_trans (flP_mono (by omega) hca y) ((hy y).2 (Nat.le_refl _) j hj)
  omega
theorem WtIs.zero {B : Bk} (hB : BkF B) {near a v e : Int} (h : WtIs B near a v e) : v = 0 ↔ a ≤ near := by
  obtain ⟨_, y, rfl, _, hy⟩ := h
  have hw := slW_bd hB
  constructor
  · intro h
    have hy0 : y = 0 := by omega
    subst hy0
    exact (hy 0).2 (Nat.le_refl _) 0 (by omega)
  · intro h
    have := (hy 0).1 fun j _ => h
    omega
theorem WtIs.at {B : Bk} {near a v e : Int} (h : WtIs B near a v e) (i : Nat) : WS B near a i ↔ v ≤ (i : Int) := by
  obtain ⟨_, y, rfl, _, hy⟩ := h
  rw [hy i]
  omega
theorem al_judge {s : Sn} (hF : s.Fine) {b : Nat} (hb : b < s.bs.length) {x l : Int} (hx : -100 ≤ x ∧ x ≤ 100) (hl : 1 ≤ l ∧ l ≤ 60) {v e j : Int} (h : WtIs (elB s.bs b) s.near (abI x) v e) {m : Nat} (hj : (s.al b x l).judge 0 m = j) : j = 2 ↔ v ≤ (m : Int) := by
  rw [← h.at m, ← al_set hF hb hx hl]
  unfold Sn.set
  rw [hj, beq_iff_eq]
theorem al_when {s : Sn} (hF : s.Fine) {b : Nat} (hb : b < s.bs.length) {x l : Int} (hx : -100 ≤ x ∧ x ≤ 100) (hl : 1 ≤ l ∧ l ≤ 60) {v e : Int} (h : WtIs (elB s.bs b) s.near (abI x) v e) (hv : v ≤ l) : whenR (s.al b x l) 0 = .inr v := by
  have key : ∀ m : Nat, (s.al b x l).sets [0] m = true ↔ v ≤ (m : Int) := fun m => by rw [sets_one, al_set hF hb hx hl, h.at m]
  have hN : (((s.al b x l).N : Nat) : Int) = l := by show ((l.toNat : Nat) : Int) = l; omega
  have hfr : (s.al b x l).frm [0] (s.al b x l).N = (v, true) := by
    rcases frm_is (s := s.al b x l) (Ns := [0]) (N := (s.al b x l).N) with ⟨_, h2⟩ | ⟨g, hg, h1, h2, h3⟩
    · rw [(key _).2 (by omega)] at h2; cases h2
    · have h4 := (key g).1 (h2 g (Nat.le_refl _) hg)
      have h5 : (g : Int) = v := by
        by_cases h0 : 0 < g
        · have h6 := h3 h0
          by_cases h7 : v ≤ ((g - 1 : Nat) : Int)
          · rw [(key _).2 h7] at h6; cases h6
          · omega
        · have h8 := h.2
          obtain ⟨y, hy, _⟩ := h8
          omega
      rw [h1, h5]
  unfold whenR Sn.isB
  rw [al_ok hF hb hx hl, show inI 0 0 (((s.al b x l).bs.length : Int) - 1) = true from rfl]
  show fmR ((s.al b x l).frm [0] (s.al b x l).N) = _
  rw [hfr]
  rfl
end Go.Proofs.Ytfjfkaaflghaiaa
