/-
  LAW: WearLater: numbers.
-/
import Derived.Test.YtihoackebmnkaaaGreatGn
namespace Go.Proofs.YtihoackebmnkaaaGreat
open Go.RowKit Go.Proofs.Tryz


def shE (d : Int) (e : Ev) : Ev := bif e.1 == 1 then (e.1, e.2.1, e.2.2.1 + d, e.2.2.2 + d) else e
def shS (d : Int) (k : Sp) : Sp := (k.1 + d, k.2 + d)
def Wn.sh (w : Wn) (d : Int) : Wn := ⟨shS d w.l, w.u, w.es.map (shE d)⟩
/-- A block that is longer by d, and so are its readings. -/
def Wb.sh (p : Wb) (d : Int) (a : Option Addr) (c : Nat) : Wb := ⟨p.ll + d, p.lh + d, p.ul, p.uh, a, c, p.es.map (shE d)⟩
theorem sh_n (p : Wb) (d : Int) (a : Option Addr) (c : Nat) : (p.sh d a c).n = p.n.sh d := rfl
theorem sh_len (w : Wn) (d : Int) : (w.sh d).es.length = w.es.length := List.length_map _
theorem shE_kind (d : Int) (e : Ev) : (shE d e).1 = e.1 := by
  unfold shE
  cases e.1 == 1 <;> rfl
theorem shE_read {d : Int} {e : Ev} (h : e.1 = 1) : shE d e = (e.1, e.2.1, e.2.2.1 + d, e.2.2.2 + d) := by
  unfold shE
  rw [show (e.1 == 1) = true by simpa using h]
  rfl
theorem shE_not {d : Int} {e : Ev} (h : e.1 ≠ 1) : shE d e = e := by
  unfold shE
  rw [show (e.1 == 1) = false by simpa using h]
  rfl
theorem poss_sh (d : Int) (k : Sp) : possS (shS d k) = possS k := decide_eq_decide.2 (by unfold shS; dsimp only; omega)
theorem cut_sh (d : Int) (a b : Sp) : cutS (shS d a) (shS d b) = shS d (cutS a b) := by
  unfold cutS shS
  refine Prod.ext ?_ ?_ <;> dsimp only <;> omega
theorem mov_sh (d : Int) (k b : Sp) : movS (shS d k) b = shS d (movS k b) := by
  unfold movS
  rw [poss_sh]
  cases possS k with
  | false => rfl
  | true =>
    unfold shS
    refine Prod.ext ?_ ?_ <;> dsimp only [cond_true] <;> omega
theorem fwd_sh {u : Sp} {e : Ev} (hv : vEv e = true) (d : Int) (k : Sp) : fwdE u (shE d e) (shS d k) = shS d (fwdE u e k) := by
  rcases kind_of hv with h | h | h
  · rw [shE_not (by omega)]
    unfold fwdE
    rw [show (e.1 == 0) = true by simpa using h]
    exact mov_sh d k _
  · rw [fwd_read (x := shE d e) (by rw [shE_kind]; exact h), fwd_read h, shE_read h]
    exact cut_sh d k e.2.2
  · rw [shE_not (by omega)]
    unfold fwdE
    rw [show (e.1 == 0) = false by rw [h]; rfl, show (e.1 == 2) = true by simpa using h]
    exact mov_sh d k _
theorem bck_read {u : Sp} {x : Ev} (h : x.1 = 1) (k : Sp) : bckE u x k = cutS k x.2.2 := by
  unfold bckE
  rw [show (x.1 == 0) = false by rw [h]; rfl, show (x.1 == 2) = false by rw [h]; rfl]
  rfl
theorem bck_sh {u : Sp} {e : Ev} (hv : vEv e = true) (d : Int) (k : Sp) : bckE u (shE d e) (shS d k) = shS d (bckE u e k) := by
  rcases kind_of hv with h | h | h
  · rw [shE_not (by omega)]
    unfold bckE
    rw [show (e.1 == 0) = true by simpa using h]
    exact mov_sh d k _
  · rw [bck_read (x := shE d e) (by rw [shE_kind]; exact h), bck_read h, shE_read h]
    exact cut_sh d k e.2.2
  · rw [shE_not (by omega)]
    unfold bckE
    rw [show (e.1 == 0) = false by rw [h]; rfl, show (e.1 == 2) = true by simpa using h]
    exact mov_sh d k _
theorem elE_map {es : List Ev} {g : Ev → Ev} {i : Nat} (h : i < es.length) : elE (es.map g) i = g (elE es i) := by
  rw [elE_at (by rw [List.length_map]; exact h), elE_at h, List.getElem_map]
theorem FW_sh {u : Sp} {es : List Ev} (hv : ∀ e ∈ es, vEv e = true) (l : Sp) (d : Int) : ∀ i, i ≤ es.length → FW u (shS d l) (es.map (shE d)) i = shS d (FW u l es i)
  | 0, _ => rfl
  | i + 1, h => by
    rw [FW_next u (shS d l) (show i < (es.map (shE d)).length by rw [List.length_map]; omega), FW_next u l (show i < es.length by omega), FW_sh hv l d i (by omega), elE_map (by omega), fwd_sh (hv _ (elE_mem (by omega)))]
theorem BW_sh {u : Sp} {es : List Ev} (hv : ∀ e ∈ es, vEv e = true) (l : Sp) (d : Int) : ∀ j i, j + i = es.length → BW u (shS d l) (es.map (shE d)) i = shS d (BW u l es i)
  | 0, i, h => by
    have e1 : i = es.length := by omega
    subst e1
    rw [BW_last]
    have h1 := BW_last u (shS d l) (es.map (shE d))
    rw [List.length_map] at h1
    rw [h1, FW_sh hv l d _ (Nat.le_refl _)]
  | j + 1, i, h => by
    rw [BW_prev u (shS d l) (show i < (es.map (shE d)).length by rw [List.length_map]; omega), BW_prev u l (show i < es.length by omega), BW_sh hv l d j (i + 1) (by omega), FW_sh hv l d i (by omega), elE_map (by omega), bck_sh (hv _ (elE_mem (by omega))), cut_sh]
theorem B_sh {w : Wn} (h : w.Fine) (d : Int) {i : Nat} (hi : i ≤ w.es.length) : (w.sh d).B i = shS d (w.B i) := BW_sh h.ev w.l d (w.es.length - i) i (by omega)
theorem can_sh {w : Wn} (h : w.Fine) (d : Int) : (w.sh d).can = w.can := by
  unfold Wn.can
  rw [B_sh h d (Nat.zero_le _), poss_sh]
theorem mC_sh {w : Wn} (h : w.Fine) (d : Int) {i : Nat} (hi : i ≤ w.es.length) : mC (w.sh d) i = shS d (mC w i) := by
  rw [mC_le _ (by rw [sh_len]; exact hi), mC_le _ hi, B_sh h d hi]
theorem lost1_sh {w : Wn} (h : w.Fine) (d a : Int) : (w.sh d).lost1 (a + d) = shS d (w.lost1 a) := by
  unfold Wn.lost1
  rw [sh_len]
  exact FW_sh h.ev (a, a) d _ (Nat.le_refl _)
theorem lostK_sh {w : Wn} (h : w.Fine) (d : Int) : ∀ t, lostK (w.sh d) t = lostK w t
  | 0 => rfl
  | t + 1 => by
    have e1 : (w.sh d).l.1 + (t : Int) = (w.l.1 + (t : Int)) + d := by show w.l.1 + d + (t : Int) = _; omega
    have e2 := lost1_sh h d (w.l.1 + (t : Int))
    cases hb : possS (w.lost1 (w.l.1 + (t : Int))) with
    | false => rw [lostK_no e1 (by rw [e2, poss_sh]; exact hb), lostK_no rfl hb, lostK_sh h d t]
    | true =>
      rw [lostK_yes e1 (by rw [e2, poss_sh]; exact hb), lostK_yes rfl hb, lostK_sh h d t, e2]
      congr 2
      unfold shS
      refine Prod.ext ?_ ?_ <;> dsimp only <;> omega
theorem lost_sh {w : Wn} (h : w.Fine) (d : Int) : (w.sh d).lost = w.lost := by
  unfold Wn.lost
  rw [show (w.sh d).nl = w.nl from by unfold Wn.nl Wn.sh shS; dsimp only; congr 1; omega, lostK_sh h d]
theorem lkE_sh (s k : Nat) (d : Int) (e : Ev) : lkE s k (shE d e) = shE d (lkE s k e) := by
  unfold lkE
  rw [shE_kind]
  cases (e.1 == 1 && !s.testBit k) <;> rfl
theorem look_sh (w : Wn) (d : Int) (s : Nat) : (w.sh d).look s = (w.look s).sh d := by
  have key : lkL s (w.es.map (shE d)) = (lkL s w.es).map (shE d) := by
    unfold lkL
    rw [List.length_map, List.map_map]
    apply List.map_congr_left
    intro k hk
    rw [List.mem_range] at hk
    rw [elE_map hk, lkE_sh]
    rfl
  unfold Wn.look Wn.sh
  dsimp only
  rw [key]
theorem reads_sh (w : Wn) (d : Int) : (w.sh d).reads = w.reads := by
  unfold Wn.reads
  rw [sh_len]
  refine bitsP_congr fun i hi => ?_
  show ((elE (w.es.map (shE d)) i).1 == 1) = _
  rw [elE_map hi, shE_kind]
theorem cl_sh {w : Wn} (h : w.Fine) (d : Int) : (w.sh d).cl = w.cl := by
  unfold Wn.cl
  rw [reads_sh, show (w.sh d).clB = w.clB from funext fun s => by unfold Wn.clB; rw [look_sh, can_sh (h.look s)]]
theorem lostR_sh {p : Wb} (h : p.n.Fine) {d : Int} (hq : (p.n.sh d).ok = true) (a : Option Addr) (c : Nat) : lostR (p.sh d a c) = lostR p := by
  unfold lostR
  rw [sh_n, hq, h.okB, can_sh h d, lost_sh h d]
theorem clashR_sh {p : Wb} (h : p.n.Fine) {d : Int} (hq : (p.n.sh d).ok = true) (a : Option Addr) (c : Nat) : clashR (p.sh d a c) = clashR p := by
  unfold clashR
  rw [sh_n, hq, h.okB, can_sh h d, cl_sh h d]
theorem untilR_sh {p : Wb} (h : p.n.Fine) {d m : Int} (hq : (p.n.sh d).ok = true) (hm : spI (m, m) (-1000) 1000 = true) (hm2 : spI (m + d, m + d) (-1000) 1000 = true) (a : Option Addr) (c : Nat) : untilR (p.sh d a c) (m + d) = untilR p m := by
  have key : untF (p.sh d a c) (m + d) = untF p m := funext fun i => by
    unfold untF tooF
    rw [sh_n, show (p.sh d a c).es.length = p.es.length from List.length_map _, show mC (p.n.sh d) p.es.length = shS d (mC p.n p.es.length) from mC_sh h d (Nat.le_refl _)]
    show (!decide ((movS (shS d (mC p.n p.es.length)) (negS (manS (dnN 100 i) (p.ul, p.uh)))).1 < m + d)) = _
    rw [mov_sh]
    congr 1
    exact decide_eq_decide.2 (by unfold shS; dsimp only; omega)
  unfold untilR
  rw [sh_n, hq, h.okB, hm, hm2, can_sh h d, key]
-- two uses joined
def Wn.jn (w : Wn) (k : Nat) (n : Int) : Wn := ⟨w.l, w.u, w.es.take k ++ [(0, n, 0, 0)]⟩
def Wb.jn (p : Wb) (k : Nat) (n : Int) (a : Option Addr) (c : Nat) : Wb := ⟨p.ll, p.lh, p.ul, p.uh, a, c, p.es.take k ++ [(0, n, 0, 0)]⟩
theorem jn_n (p : Wb) (k : Nat) (n : Int) (a : Option Addr) (c : Nat) : (p.jn k n a c).n = p.n.jn k n := rfl
structure Jn (w : Wn) (k : Nat) (n : Int) : Prop where
  F : w.Fine
  len : w.es.length = k + 2
  e1 : (elE w.es k).1 = 0
  e2 : (elE w.es (k + 1)).1 = 0
  sum : (elE w.es (k + 1)).2.1 + (elE w.es k).2.1 = n
  ok : (w.jn k n).ok = true
theorem jn_len {w : Wn} {k : Nat} {n : Int} (h : w.es.length = k + 2) : (w.jn k n).es.length = k + 1 := by
  unfold Wn.jn
  simp
  omega
theorem fwd_use {u : Sp} {x : Ev} (h : x.1 = 0) (k : Sp) : fwdE u x k = movS k (negS (manS x.2.1 u)) := by
  unfold fwdE
  rw [show (x.1 == 0) = true by rw [h]; rfl]
  rfl
theorem mov_yes {k b : Sp} (h : possS k = true) : movS k b = (k.1 + b.1, k.2 + b.2) := by unfold movS; rw [h]; rfl
theorem mov_two {u : Sp} (hu : u.1 ≤ u.2) {a b : Int} (ha : 0 ≤ a) (k : Sp) : movS (movS k (negS (manS a u))) (negS (manS b u)) = movS k (negS (manS (b + a) u)) := by
  cases hk : possS k with
  | false =>
    have e : ∀ x, movS k x = k := fun x => by unfold movS; rw [hk]; rfl
    rw [e, e, e]
  | true =>
    have h1 : k.1 ≤ k.2 := of_decide_eq_true hk
    have h2 := man_le hu ha
    have hk2 : possS (movS k (negS (manS a u))) = true := by
      unfold movS
      rw [hk]
      exact decide_eq_true (by unfold negS manS at *; dsimp only [cond_true] at *; omega)
    have e1 : movS k (negS (manS a u)) = (k.1 + (negS (manS a u)).1, k.2 + (negS (manS a u)).2) := by unfold movS; rw [hk]; rfl
    have e3 : movS k (negS (manS (b + a) u)) = (k.1 + (negS (manS (b + a) u)).1, k.2 + (negS (manS (b + a) u)).2) := by unfold movS; rw [hk]; rfl
    rw [mov_yes hk2, e1, e3]
    unfold negS manS
    refine Prod.ext ?_ ?_ <;> dsimp only [cond_true] <;> rw [Int.add_mul] <;> omega
theorem FW_jn {w : Wn} {k : Nat} {n : Int} (h : Jn w k n) (l : Sp) : FW w.u l (w.es.take k ++ [(0, n, 0, 0)]) (k + 1) = FW w.u l w.es (k + 2) := by
  have hl : (w.es.take k).length = k := by rw [List.length_take, h.len]; omega
  have h1 := FW_addL w.u l (w.es.take k) (0, n, 0, 0)
  rw [hl] at h1
  have h2 : FW w.u l (w.es.take k) k = FW w.u l w.es k := by unfold FW; rw [List.take_take, Nat.min_self]
  have hk := h.len
  rw [h1, h2, FW_next w.u l (show k + 1 < w.es.length by omega), FW_next w.u l (show k < w.es.length by omega), fwd_use h.e2, fwd_use h.e1, fwd_use rfl, mov_two h.F.u.2.1 (by
    have hv := h.F.ev _ (elE_mem (show k < w.es.length by omega))
    unfold vEv at hv
    rw [h.e1] at hv
    exact (of_decide_eq_true hv).1), h.sum]
theorem jn_can {w : Wn} {k : Nat} {n : Int} (h : Jn w k n) : (w.jn k n).can = w.can := by
  rw [(Wn.fine h.ok).ok_.can_F, h.F.ok_.can_F]
  unfold Wn.F
  rw [jn_len h.len, h.len]
  exact congrArg possS (FW_jn h w.l)
theorem jn_lost1 {w : Wn} {k : Nat} {n : Int} (h : Jn w k n) (a : Int) : (w.jn k n).lost1 a = w.lost1 a := by
  unfold Wn.lost1
  rw [jn_len h.len, h.len]
  exact FW_jn h (a, a)
theorem jn_lost {w : Wn} {k : Nat} {n : Int} (h : Jn w k n) : (w.jn k n).lost = w.lost := by
  unfold Wn.lost
  rw [show (w.jn k n).nl = w.nl from rfl, lostK_congr (w := w.jn k n) (v := w) rfl w.nl fun i _ => by rw [jn_lost1 h]; exact ⟨rfl, fun _ => rfl⟩]
theorem jn_mC {w : Wn} {k : Nat} {n : Int} (h : Jn w k n) : mC (w.jn k n) (k + 1) = mC w (k + 2) := by
  have hk := h.len
  rw [mC_le _ (by rw [jn_len h.len]; exact Nat.le_refl _), mC_le _ (by omega)]
  have h1 := B_last (w.jn k n)
  have h2 := B_last w
  rw [jn_len h.len] at h1
  rw [h.len] at h2
  rw [h1, h2]
  exact FW_jn h w.l
theorem lostR_jn {p : Wb} {k : Nat} {n : Int} (h : Jn p.n k n) (a : Option Addr) (c : Nat) : lostR (p.jn k n a c) = lostR p := by
  unfold lostR
  rw [jn_n, h.ok, h.F.okB, jn_can h, jn_lost h]
theorem untilR_jn {p : Wb} {k : Nat} {n : Int} (h : Jn p.n k n) (m : Int) (a : Option Addr) (c : Nat) : untilR (p.jn k n a c) m = untilR p m := by
  have key : untF (p.jn k n a c) m = untF p m := funext fun i => by
    unfold untF
    rw [jn_n, show (p.jn k n a c).es.length = k + 1 from jn_len h.len, jn_mC h, show p.es.length = k + 2 from h.len]
    rfl
  unfold untilR
  rw [jn_n, h.ok, h.F.okB, jn_can h, key]
end Go.Proofs.YtihoackebmnkaaaGreat
