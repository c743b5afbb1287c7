/-
  LAW: PairEnds.
-/
import Derived.Test.YtmiobcnccbfknaaHF3
namespace Go.Proofs.Ytmiobcnccbfknaa
open Go.RowKit Go.Proofs.Try


theorem rem_run {P : Program} {w : World} {t : TypeId} (x y : Int) (hx : 0 ≤ x) (hy : 0 < y) : (binOp .rem t (.int .i64 x) (.int .i64 y) >>= fun v => pure (Next.value v)).run P w = .ok (.value (.int .i64 (x % y))) w := by
  have hy0 : ¬ y = 0 := by omega
  simp [binOp, Op.intDiv, hy0, Int.tmod_eq_emod_of_nonneg hx]
theorem blk_yes {a m : Nat} (h : a < m) : blkB (a : Int) (m : Int) = true := by unfold blkB; exact decide_eq_true ⟨by omega, by omega⟩
theorem blk_self (m : Nat) : blkB (m : Int) (m : Int) = false := by unfold blkB; exact decide_eq_false (by omega)
theorem elB_nat {p : Pr} {a : Nat} (ha : a < p.bs.length) : p.n.blk a = elB p.bs a := blk_in (p := p.n) ha
/-- A pair in which a deviation is known. -/
def Prn.pin (q : Prn) (a : Nat) (k : Int) : Prn := { q with bs := q.bs.set a (k, k) }
theorem pin_blk {q : Prn} {a : Nat} (ha : a < q.bs.length) (k : Int) (i : Nat) : (q.pin a k).blk i = if i = a then (k, k) else q.blk i := by
  unfold Prn.blk Prn.pin
  dsimp only
  rw [List.getElem?_set]
  by_cases e : a = i
  · subst e
    simp [ha]
  · rw [if_neg e, if_neg (Ne.symm e)]
theorem pin_tr {q : Prn} {a : Nat} {k : Int} (ha : a < q.bs.length) (h5 : a < 5) (h1 : (q.blk a).1 ≤ k) (h2 : k ≤ (q.blk a).2) {c : Int × Int} {x : Nat → Int} : (q.pin a k).Tr c x ↔ q.Tr c x ∧ x a = k := by
  constructor
  · intro h
    have hk := h.blk a h5
    rw [pin_blk ha, if_pos rfl] at hk
    dsimp only at hk
    refine ⟨⟨h.mark, fun i hi => ?_, h.rd⟩, by omega⟩
    have hb := h.blk i hi
    rw [pin_blk ha] at hb
    by_cases e : i = a
    · subst e
      omega
    · rwa [if_neg e] at hb
  · rintro ⟨h, hk⟩
    refine ⟨h.mark, fun i hi => ?_, h.rd⟩
    rw [pin_blk ha]
    by_cases e : i = a
    · subst e
      rw [if_pos rfl]
      dsimp only
      omega
    · rw [if_neg e]
      exact h.blk i hi
theorem pin_ok {q : Prn} (h : q.Ok) {a : Nat} {k : Int} (ha : a < q.bs.length) (h1 : (q.blk a).1 ≤ k) (h2 : k ≤ (q.blk a).2) (h5 : a < 5) : (q.pin a k).Ok := by
  refine ⟨fun i hi => ?_, h.rl⟩
  rw [pin_blk ha]
  have := h.bl i hi
  by_cases e : i = a
  · subst e
    rw [if_pos rfl]
    dsimp only
    omega
  · rw [if_neg e]
    exact this
theorem pin_fine {p : Pr} (h : p.Fine) {a : Nat} {k : Int} (ha : a < p.bs.length) (h1 : (elB p.bs a).1 ≤ k) (h2 : k ≤ (elB p.bs a).2) (g cap : Nat) : (p.bl_ g cap (p.bs.set a (k, k))).Fine := by
  have hl : (p.bs.set a (k, k)).length = p.bs.length := List.length_set ..
  refine ⟨by show 1 ≤ (p.bs.set a (k, k)).length; rw [hl]; exact h.b1, by show (p.bs.set a (k, k)).length ≤ 5; rw [hl]; exact h.b5, fun i hi => ?_, h.z, h.zw, h.r, h.rw_, h.r8, fun i hi => ?_⟩
  · have hi : i < (p.bs.set a (k, k)).length := hi
    rw [hl] at hi
    have hb := h.bl i hi
    have ha2 := h.bl a ha
    show -20 ≤ (elB (p.bs.set a (k, k)) i).1 ∧ (elB (p.bs.set a (k, k)) i).1 ≤ (elB (p.bs.set a (k, k)) i).2 ∧ (elB (p.bs.set a (k, k)) i).2 ≤ 20
    unfold elB
    rw [List.getElem?_set]
    by_cases e : a = i
    · subst e
      simp [ha]
      omega
    · rw [if_neg e]
      exact hb
  · have := h.rd i hi
    show (0 ≤ (elR p.rs i).1 ∧ (elR p.rs i).1 < (p.bs.set a (k, k)).length) ∧ (0 ≤ (elR p.rs i).2.1 ∧ (elR p.rs i).2.1 < (p.bs.set a (k, k)).length) ∧ _
    rw [hl]
    exact this
theorem known_some {q : Prn} (h : q.Ok) : q.known.isEmpty = false ↔ q.some_ fun _ _ => True := by
  rw [← Prn.known_is h]
  cases q.known <;> simp
theorem ne_nil {α : Type} {l : List α} (h : l.isEmpty = false) : l ≠ [] := by rintro rfl; cases h
/-- What is told of the difference for each deviation of a that can be. -/
def enL (p : Pr) (a b j : Nat) : List (Int × Int) := (List.range j).filterMap fun (q : Nat) => if (p.n.pin a ((elB p.bs a).1 + (q : Int))).known.isEmpty then none else some ((elB p.bs a).1 + (q : Int) - ((p.n.pin a ((elB p.bs a).1 + (q : Int))).differA b 5).2, (elB p.bs a).1 + (q : Int) - ((p.n.pin a ((elB p.bs a).1 + (q : Int))).differA b 5).1)
def en (p : Pr) (a b j : Nat) : Int × Int := hullS (80, -80) (enL p a b j)
theorem en_no {p : Pr} {a b j : Nat} (h : (p.n.pin a ((elB p.bs a).1 + (j : Int))).known.isEmpty = true) : en p a b (j + 1) = en p a b j := by
  unfold en enL
  rw [List.range_succ, List.filterMap_append, List.filterMap_cons_none (by rw [h]; rfl)]
  simp
theorem en_yes {p : Pr} {a b j : Nat} (h : (p.n.pin a ((elB p.bs a).1 + (j : Int))).known.isEmpty = false) : en p a b (j + 1) = (min (en p a b j).1 ((elB p.bs a).1 + (j : Int) - ((p.n.pin a ((elB p.bs a).1 + (j : Int))).differA b 5).2), max (en p a b j).2 ((elB p.bs a).1 + (j : Int) - ((p.n.pin a ((elB p.bs a).1 + (j : Int))).differA b 5).1)) := by
  unfold en
  have e : enL p a b (j + 1) = enL p a b j ++ [((elB p.bs a).1 + (j : Int) - ((p.n.pin a ((elB p.bs a).1 + (j : Int))).differA b 5).2, (elB p.bs a).1 + (j : Int) - ((p.n.pin a ((elB p.bs a).1 + (j : Int))).differA b 5).1)] := by
    unfold enL
    rw [List.range_succ, List.filterMap_append, List.filterMap_cons_some (by rw [h]; rfl)]
    rfl
  rw [e]
  exact hull_add _ _ _
/-- With both ends of what is told there is a truth; a truth is within. -/
theorem ends_of {p : Pr} (h : p.Fine) {a : Nat} (ha : a < p.bs.length) (hn : p.n.known.isEmpty = false) {k : Int} (h1 : (elB p.bs a).1 ≤ k) (h2 : k ≤ (elB p.bs a).2) :
    ((p.n.pin a k).known.isEmpty = false → (p.n.differA a 5).1 ≤ k ∧ k ≤ (p.n.differA a 5).2) ∧ (k = (p.n.differA a 5).1 ∨ k = (p.n.differA a 5).2 → (p.n.pin a k).known.isEmpty = false) := by
  have hb := h.b5
  have e := elB_nat ha
  have han : a < p.n.bs.length := ha
  have hq1 : (p.n.blk a).1 ≤ k := by rw [e]; exact h1
  have hq2 : k ≤ (p.n.blk a).2 := by rw [e]; exact h2
  have hpin := pin_ok h.ok han hq1 hq2 (by omega)
  obtain ⟨d1, d2, d3⟩ := Prn.differA_is h.ok (ne_nil hn) (a := a) (b := 5) (by omega) (by omega)
  refine ⟨fun hk => ?_, fun hk => ?_⟩
  · obtain ⟨c, hc, x, hx, _⟩ := (known_some hpin).1 hk
    obtain ⟨h3, h4⟩ := (pin_tr han (by omega) hq1 hq2).1 hx
    have := d1 c hc x h3
    rw [h3.mark, h4] at this
    omega
  · rcases hk with hk | hk
    · obtain ⟨c, hc, x, hx, h3⟩ := d2
      rw [hx.mark] at h3
      exact (known_some hpin).2 ⟨c, hc, x, (pin_tr han (by omega) hq1 hq2).2 ⟨hx, by omega⟩, trivial⟩
    · obtain ⟨c, hc, x, hx, h3⟩ := d3
      rw [hx.mark] at h3
      exact (known_some hpin).2 ⟨c, hc, x, (pin_tr han (by omega) hq1 hq2).2 ⟨hx, by omega⟩, trivial⟩
theorem differ_bd2 {p : Pr} (h : p.Fine) {a b : Nat} (ha : a < 5) (hb : b < 6) (hn : p.n.known.isEmpty = false) : ((p.n.differA a b).1 ≤ (p.n.differA a b).2) ∧ -1000 ≤ (p.n.differA a b).1 ∧ (p.n.differA a b).2 ≤ 1000 := by
  obtain ⟨d1, ⟨c, hc, x, hx, h1⟩, ⟨c2, hc2, y, hy, h2⟩⟩ := Prn.differA_is h.ok (ne_nil hn) (a := a) (b := b) (by omega) hb
  have q1 := d1 c hc x hx
  have bd : ∀ (z : Nat → Int) (c : Int × Int), p.n.Tr c z → ∀ i, i < 6 → -20 ≤ z i ∧ z i ≤ 20 := by
    intro z c hz i hi
    by_cases e : i = 5
    · subst e
      rw [hz.mark]
      omega
    · have := hz.blk i (by omega)
      have := h.ok.bl i (by omega)
      omega
  have b1 := bd x c hx a (by omega)
  have b2 := bd x c hx b hb
  have b3 := bd y c2 hy a (by omega)
  have b4 := bd y c2 hy b hb
  omega
theorem pin_bd {p : Pr} (h : p.Fine) {a b : Nat} (ha : a < p.bs.length) (hb : b < 5) {k : Int} (h1 : (elB p.bs a).1 ≤ k) (h2 : k ≤ (elB p.bs a).2) (hn : (p.n.pin a k).known.isEmpty = false) : -1000 ≤ ((p.n.pin a k).differA b 5).1 ∧ ((p.n.pin a k).differA b 5).2 ≤ 1000 ∧ ((p.n.pin a k).differA b 5).1 ≤ ((p.n.pin a k).differA b 5).2 := by
  have := differ_bd2 (pin_fine h ha h1 h2 0 0) hb (b := 5) (by omega) hn
  exact ⟨this.2.1, this.2.2, this.1⟩
theorem en_bd (p : Pr) (a b j : Nat) : (en p a b j).1 ≤ 80 ∧ -80 ≤ (en p a b j).2 := ⟨(hullS_min _ _).1, (hullS_max _ _).1⟩
theorem en_all {p : Pr} (h : p.Fine) {a b j : Nat} (ha : a < p.bs.length) (hb : b < p.bs.length) (hn : p.n.known.isEmpty = false) (hj : (j : Int) = (elB p.bs a).2 - (elB p.bs a).1 + 1) : en p a b j = p.n.differA a b := by
  have h5 := h.b5
  have e := elB_nat ha
  have han : a < p.n.bs.length := ha
  obtain ⟨d1, d2, d3⟩ := Prn.differA_is h.ok (ne_nil hn) (a := a) (b := b) (by omega) (by omega)
  have hbd := differ_bd2 h (a := a) (b := b) (by omega) (by omega) hn
  -- a truth gives an element
  have up : ∀ c ∈ p.n.comps, ∀ x, p.n.Tr c x → ∃ t ∈ enL p a b j, t.1 ≤ x a - x b ∧ x a - x b ≤ t.2 := by
    intro c hc x hx
    have hxa := hx.blk a (by omega)
    rw [e] at hxa
    obtain ⟨q, hq⟩ : ∃ q : Nat, (elB p.bs a).1 + (q : Int) = x a := ⟨(x a - (elB p.bs a).1).toNat, by omega⟩
    have hq1 : (p.n.blk a).1 ≤ x a := by rw [e]; exact hxa.1
    have hq2 : x a ≤ (p.n.blk a).2 := by rw [e]; exact hxa.2
    have hpin := pin_ok h.ok han hq1 hq2 (by omega)
    have hpx := (pin_tr han (by omega) hq1 hq2).2 ⟨hx, rfl⟩
    have hpn := (known_some hpin).2 ⟨c, hc, x, hpx, trivial⟩
    obtain ⟨g1, _, _⟩ := Prn.differA_is hpin (ne_nil hpn) (a := b) (b := 5) (by omega) (by omega)
    have g := g1 c hc x hpx
    rw [hpx.mark] at g
    refine ⟨_, List.mem_filterMap.2 ⟨q, List.mem_range.2 (by omega), by rw [hq, hpn]; rfl⟩, ?_, ?_⟩
    · dsimp only
      omega
    · dsimp only
      omega
  -- an element's ends are those of a truth
  have dn : ∀ t ∈ enL p a b j, (p.n.differA a b).1 ≤ t.1 ∧ t.2 ≤ (p.n.differA a b).2 := by
    intro t ht
    obtain ⟨q, hq, hs⟩ := List.mem_filterMap.1 ht
    have hq := List.mem_range.1 hq
    obtain ⟨k, hk⟩ : ∃ k : Int, (elB p.bs a).1 + (q : Int) = k := ⟨_, rfl⟩
    rw [hk] at hs
    cases hpn : (p.n.pin a k).known.isEmpty with
    | true => rw [hpn] at hs; cases hs
    | false =>
      rw [hpn] at hs
      injection hs with hs
      subst hs
      have hq1 : (p.n.blk a).1 ≤ k := by rw [e]; omega
      have hq2 : k ≤ (p.n.blk a).2 := by rw [e]; omega
      have hpin := pin_ok h.ok han hq1 hq2 (by omega)
      obtain ⟨_, ⟨c, hc, x, hx, g2⟩, ⟨c3, hc3, y, hy, g3⟩⟩ := Prn.differA_is hpin (ne_nil hpn) (a := b) (b := 5) (by omega) (by omega)
      obtain ⟨k1, k2⟩ := (pin_tr han (by omega) hq1 hq2).1 hx
      obtain ⟨k3, k4⟩ := (pin_tr han (by omega) hq1 hq2).1 hy
      have := d1 c hc x k1
      have := d1 c3 hc3 y k3
      rw [k1.mark] at g2
      rw [k3.mark] at g3
      dsimp only
      omega
  obtain ⟨m1, m2, m3⟩ := hullS_min (enL p a b j) (80, -80)
  obtain ⟨n1, n2, n3⟩ := hullS_max (enL p a b j) (80, -80)
  have bd : ∀ (z : Nat → Int) (c : Int × Int), p.n.Tr c z → ∀ i, i < 5 → -20 ≤ z i ∧ z i ≤ 20 := fun z c hz i hi => by
    have := hz.blk i hi
    have := h.ok.bl i hi
    omega
  unfold en
  obtain ⟨c, hc, x, hx, e1⟩ := d2
  obtain ⟨c', hc', y, hy, e2⟩ := d3
  obtain ⟨t, ht, t1, t2⟩ := up c hc x hx
  obtain ⟨u, hu, u1, u2⟩ := up c' hc' y hy
  have q1 := m2 t ht
  have q2 := n2 u hu
  have b1 := bd x c hx a (by omega)
  have b2 := bd x c hx b (by omega)
  have b3 := bd y c' hy a (by omega)
  have b4 := bd y c' hy b (by omega)
  refine Prod.ext ?_ ?_
  · rcases m3 with m3 | ⟨v, hv, m3⟩
    · dsimp only at m3
      omega
    · have := dn v hv
      omega
  · rcases n3 with n3 | ⟨v, hv, n3⟩
    · dsimp only at n3
      omega
    · have := dn v hv
      omega
theorem differ_own {p : Pr} (h : p.Fine) {a : Nat} (ha : a < 5) (hn : p.n.known.isEmpty = false) : p.n.differA a a = (0, 0) := by
  obtain ⟨_, ⟨c, hc, x, hx, h1⟩, ⟨c2, hc2, y, hy, h2⟩⟩ := Prn.differA_is h.ok (ne_nil hn) (a := a) (b := a) (by omega) (by omega)
  exact Prod.ext (by show _ = (0 : Int); omega) (by show _ = (0 : Int); omega)
theorem differ_back {p : Pr} (h : p.Fine) {a b : Nat} (ha : a < 5) (hb : b < 5) (hn : p.n.known.isEmpty = false) : p.n.differA b a = (-(p.n.differA a b).2, -(p.n.differA a b).1) := by
  obtain ⟨d, ⟨c, hc, x, hx, h1⟩, ⟨c2, hc2, y, hy, h2⟩⟩ := Prn.differA_is h.ok (ne_nil hn) (a := a) (b := b) (by omega) (by omega)
  obtain ⟨d', ⟨c', hc', x', hx', h1'⟩, ⟨c2', hc2', y', hy', h2'⟩⟩ := Prn.differA_is h.ok (ne_nil hn) (a := b) (b := a) (by omega) (by omega)
  have q1 := d c' hc' x' hx'
  have q2 := d c2' hc2' y' hy'
  have q3 := d' c hc x hx
  have q4 := d' c2 hc2 y hy
  exact Prod.ext (by show _ = -_; omega) (by show _ = -_; omega)

theorem known_pin {p : Pr} (h : p.Fine) {a b : Nat} {k : Int} (ha : a < p.bs.length) (hb : b < p.bs.length) (h1 : (elB p.bs a).1 ≤ k) (h2 : k ≤ (elB p.bs a).2) (g cap : Nat) : knownR (p.bl_ g cap (p.bs.set a (k, k))) (b : Int) = bif (p.n.pin a k).known.isEmpty then .inl 10 else .inr ((p.n.pin a k).differA b 5) := by
  have hl : (p.bs.set a (k, k)).length = p.bs.length := List.length_set ..
  have hbb : blkB (b : Int) ((p.bl_ g cap (p.bs.set a (k, k))).bs.length : Int) = true := by
    show blkB (b : Int) ((p.bs.set a (k, k)).length : Int) = true
    rw [hl]
    exact blk_yes hb
  unfold knownR
  rw [(pin_fine h ha h1 h2 g cap).okB, hbb]
  rfl
end Go.Proofs.Ytmiobcnccbfknaa
