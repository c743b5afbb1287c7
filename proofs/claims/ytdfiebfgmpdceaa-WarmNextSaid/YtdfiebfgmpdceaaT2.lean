/-
  WarmTrue: the law's own draws.
-/
import Derived.Test.YtdfiebfgmpdceaaF1
namespace Go.Proofs.Ytdfiebfgmpdceaa
open Go.RowKit

/-- The slice at a holds these numbers below 65536. -/
def U16s (w : World) (a : Option Addr) (xs : List Int) : Prop :=
  xs ≠ [] → ∃ b o, a = some ⟨b, o, none⟩ ∧ ∀ i, i < xs.length → w.cell? ⟨b, o + i, none⟩ = some (.int .u16 (xs[i]?.getD 0)) ∧ 0 ≤ xs[i]?.getD 0 ∧ xs[i]?.getD 0 ≤ 65535
theorem U16s.keep {w w' : World} {a : Option Addr} {xs : List Int} (h : U16s w a xs) (k : Keeps w w') : U16s w' a xs := by
  intro hx
  obtain ⟨b, o, e, hc⟩ := h hx
  exact ⟨b, o, e, fun i hi => ⟨k.cell (hc i hi).1, (hc i hi).2⟩⟩
theorem U16s.lt {w : World} {b o : Nat} {xs : List Int} (h : U16s w (some ⟨b, o, none⟩) xs) (hx : xs ≠ []) : b < w.heap.size := by
  obtain ⟨b', o', e, hc⟩ := h hx
  cases e
  exact lt_of_cell (hc 0 (List.length_pos_iff.2 hx)).1
/-- What the function value that draws has got: how often it was called; the numbers. -/
structure Drw (w : World) (bx bb : Nat) (a : Option Addr) (cap : Nat) (xs : List Int) (t : Nat) : Prop where
  at_ : w.cell? ⟨bx, 0, none⟩ = some (.int .i64 t)
  fr : w.frozen? ⟨bx, 0, none⟩ = false
  by_ : w.cell? ⟨bb, 0, none⟩ = some (.slice a xs.length cap)
  u : U16s w a xs
theorem Drw.keep {w w' : World} {bx bb : Nat} {a : Option Addr} {cap : Nat} {xs : List Int} {t : Nat} (h : Drw w bx bb a cap xs t) (k : Keeps w w') : Drw w' bx bb a cap xs t :=
  ⟨k.cell h.at_, (k.cells.2 _ _ (lt_of_cell h.at_)).trans h.fr, k.cell h.by_, h.u.keep k⟩
theorem Drw.next {w : World} {bx bb : Nat} {a : Option Addr} {cap : Nat} {xs : List Int} {t : Nat} (h : Drw w bx bb a cap xs t) (hne : bb ≠ bx) (hbx : xs ≠ [] → ∀ b o, a = some ⟨b, o, none⟩ → b ≠ bx) : Drw (w.setCell ⟨bx, 0, none⟩ (.int .i64 ((t + 1 : Nat) : Int))) bx bb a cap xs (t + 1) := by
  refine ⟨cell_set_same (by rw [h.at_]; rfl), by rw [World.frozen?_setCell]; exact h.fr, (cell_set_other (by omega)).trans h.by_, fun hx => ?_⟩
  obtain ⟨b, o, e, hc⟩ := h.u hx
  have := hbx hx b o e
  exact ⟨b, o, e, fun i hi => ⟨(cell_set_other (by omega)).trans (hc i hi).1, (hc i hi).2⟩⟩
theorem Drw.set {w : World} {bx bb : Nat} {a : Option Addr} {cap : Nat} {xs : List Int} {t : Nat} (h : Drw w bx bb a cap xs t) {b' o' : Nat} {v : Value} (h1 : b' ≠ bx) (h2 : b' ≠ bb) (h3 : xs ≠ [] → ∀ b o, a = some ⟨b, o, none⟩ → b ≠ b') : Drw (w.setCell ⟨b', o', none⟩ v) bx bb a cap xs t := by
  refine ⟨(cell_set_other (by omega)).trans h.at_, by rw [World.frozen?_setCell]; exact h.fr, (cell_set_other (by omega)).trans h.by_, fun hx => ?_⟩
  obtain ⟨b, o, e, hc⟩ := h.u hx
  have := h3 hx b o e
  exact ⟨b, o, e, fun i hi => ⟨(cell_set_other (by omega)).trans (hc i hi).1, (hc i hi).2⟩⟩
theorem Drw.kept {w w' : World} {bx bb : Nat} {a : Option Addr} {cap : Nat} {xs : List Int} {t : Nat} {row : Option Nat} (h : Drw w bx bb a cap xs t) (hg : w.grownBy w' row) (h1 : some bx ≠ row) (h2 : some bb ≠ row) (h3 : xs ≠ [] → ∀ b o, a = some ⟨b, o, none⟩ → some b ≠ row) : Drw w' bx bb a cap xs t := by
  have l1 := lt_of_cell h.at_
  have l2 := lt_of_cell h.by_
  refine ⟨(World.cell?_of_block (hg.block bx l1 h1)).trans h.at_, (World.frozen?_of_block (hg.block bx l1 h1)).trans h.fr, (World.cell?_of_block (hg.block bb l2 h2)).trans h.by_, fun hx => ?_⟩
  obtain ⟨b, o, e, hc⟩ := h.u hx
  have := h3 hx b o e
  exact ⟨b, o, e, fun i hi => ⟨(World.cell?_of_block (hg.block b (lt_of_cell (hc i hi).1) this)).trans (hc i hi).1, (hc i hi).2⟩⟩
set_option maxHeartbeats 1600000 in
theorem draws_any (a : Option Addr) (cap : Nat) (xs : List Int) (w : World) (hU : U16s w a xs) : Calls Try.prog 90 #[.slice a xs.length cap] w fun e w' => ∃ bx bb, e = .returned (.func (.func 110) #[] #[.pointer (some ⟨bx, 0, none⟩), .pointer (some ⟨bb, 0, none⟩)]) ∧ Drw w' bx bb a cap xs 0 ∧ bb ≠ bx ∧ w.heap.size ≤ bx ∧ w.heap.size ≤ bb ∧ Keeps w w' := by
  have hmf : ∀ (fn : Fn) (first cap : Array Value) (w : World), (Instr.makeFunc fn first cap).run Try.prog w = .ok (.func fn first cap) w := fun _ _ _ _ => rfl
  go_enter Try.func90, Try.ntmps90
  go_wp2
  go_ret
  have k := ((Keeps.refl w).alloc (.cells #[.slice a xs.length cap] 43)).alloc (.cells #[.int .i64 0] 3)
  exact ⟨_, _, rfl, ⟨by simp [go_sem], by simp [go_sem], by simp [go_sem], hU.keep k⟩, by simp, by simp, by simp, k⟩
/-- The call returns a number of the span, and has counted on. -/
def Drawn (bx t : Nat) (lo hi : Int) (w : World) (e : Ending) (w' : World) : Prop := ∃ v : Int, e = .returned (.int .i64 v) ∧ lo ≤ v ∧ v ≤ hi ∧ Keeps (w.setCell ⟨bx, 0, none⟩ (.int .i64 ((t + 1 : Nat) : Int))) w'
theorem set_alloc {w : World} {p : Addr} {v : Value} {o : Obj} : Keeps (w.setCell p v) ((w.alloc o).setCell p v) := by
  refine ⟨rfl, rfl, rfl, by simp [World.setCell], fun {i} hi => ?_⟩
  have hi' : i < w.heap.size := by simpa [World.setCell] using hi
  simp only [World.setCell, World.alloc]
  rw [Array.getElem?_modify, Array.getElem?_modify, Array.getElem?_push_lt hi']
  simp [hi']
theorem Drawn.mk {bx t : Nat} {lo hi v : Int} {w w' : World} (h0 : lo ≤ v) (h1 : v ≤ hi) (hk : Keeps (w.setCell ⟨bx, 0, none⟩ (.int .i64 ((t + 1 : Nat) : Int))) w') : Drawn bx t lo hi w (.returned (.int .i64 v)) w' := ⟨v, rfl, h0, h1, hk⟩
theorem rem_in {lo hi x : Int} (h : lo ≤ hi) : lo ≤ lo + x % (hi - lo + 1) ∧ lo + x % (hi - lo + 1) ≤ hi := by
  have h1 := Int.emod_nonneg x (show hi - lo + 1 ≠ 0 by omega)
  have h2 := Int.emod_lt_of_pos x (show 0 < hi - lo + 1 by omega)
  omega
set_option maxHeartbeats 1600000 in
theorem draw_none (bx bb cap : Nat) (a : Option Addr) (t : Nat) (lo hi : Int) (w : World) (h : Drw w bx bb a cap [] t) (hne : bb ≠ bx) (hlh : lo ≤ hi) (t1 : t ≤ 1000) :
    Calls Try.prog 110 #[.agg #[.int .i64 lo, .int .i64 hi], .pointer (some ⟨bx, 0, none⟩), .pointer (some ⟨bb, 0, none⟩)] w (Drawn bx t lo hi w) := by
  obtain ⟨hx, hf, hb, _⟩ := h
  obtain ⟨S, hS⟩ : ∃ S, w.heap.size = S := ⟨_, rfl⟩
  obtain ⟨W, hW⟩ : ∃ W, w.alloc (.cells #[.int .i64 lo, .int .i64 hi] 23) = W := ⟨_, rfl⟩
  have k : Keeps w W := by rw [← hW]; exact (Keeps.refl w).alloc _
  have s0 : W.cell? ⟨S, 0, none⟩ = some (.int .i64 lo) := by rw [← hW, ← hS]; simp [go_sem]
  have s1 : W.cell? ⟨S, 1, none⟩ = some (.int .i64 hi) := by rw [← hW, ← hS]; simp [go_sem]
  have hlx := lt_of_cell hx
  have x0 := k.cell hx
  have x1 := (k.cells.2 _ 0 hlx).trans hf
  have b0 := k.cell hb
  have hbS : bx ≠ S := by omega
  have hbS2 : bb ≠ S := by have := lt_of_cell hb; omega
  obtain ⟨tn, htn⟩ : ∃ tn : Int, ((t + 1 : Nat) : Int) = tn := ⟨_, rfl⟩
  have ht1 : (t : Int) + 1 = tn := by omega
  obtain ⟨X, hX⟩ : ∃ X, W.setCell ⟨bx, 0, none⟩ (.int .i64 tn) = X := ⟨_, rfl⟩
  have y0 : X.cell? ⟨bx, 0, none⟩ = some (.int .i64 tn) := by rw [← hX]; exact cell_set_same (by rw [x0]; rfl)
  have y1 : X.cell? ⟨bb, 0, none⟩ = some (.slice a 0 cap) := by rw [← hX]; exact (cell_set_other (by omega)).trans b0
  have y2 : X.cell? ⟨S, 0, none⟩ = some (.int .i64 lo) := by rw [← hX]; exact (cell_set_other (by omega)).trans s0
  have hK : Keeps (w.setCell ⟨bx, 0, none⟩ (.int .i64 tn)) X := by rw [← hX, ← hW]; exact set_alloc
  have l1 := lt_of_cell x0
  have l2 := lt_of_cell y1
  have l3 := lt_of_cell y2
  have hw1 : IntKind.i64.wrap tn = tn := IntWalk.i64_in _ (by constructor <;> omega)
  unfold Drawn
  rw [htn]
  clear hx hf hb htn
  go_enter Try.func110, Try.ntmps110
  go_wp2_with fail
  go_ret
  exact ⟨lo, rfl, Int.le_refl _, hlh, hK⟩
set_option maxHeartbeats 1600000 in
theorem draw_some (bx bb cap b o : Nat) (xs : List Int) (t : Nat) (lo hi : Int) (w : World) (h : Drw w bx bb (some ⟨b, o, none⟩) cap xs t) (hne : bb ≠ bx) (hbx : b ≠ bx) (hp : 0 < xs.length) (hl : xs.length ≤ maxLen) (hlh : lo ≤ hi) (t1 : t ≤ 1000) (l0 : -1000 ≤ lo) (l1 : hi ≤ 1000) :
    Calls Try.prog 110 #[.agg #[.int .i64 lo, .int .i64 hi], .pointer (some ⟨bx, 0, none⟩), .pointer (some ⟨bb, 0, none⟩)] w (Drawn bx t lo hi w) := by
  obtain ⟨hx, hf, hb, hU⟩ := h
  unfold maxLen at hl
  obtain ⟨b', o', e, hc⟩ := hU (fun e => by rw [e] at hp; cases hp)
  cases e
  have hn0 : ¬ ((xs.length : Int) = 0) := by omega
  obtain ⟨i, hi'⟩ : ∃ i : Nat, ((t : Int) + 1) % (xs.length : Int) = i := Int.eq_ofNat_of_zero_le (Int.emod_nonneg _ hn0)
  have hil : i < xs.length := by have := Int.emod_lt_of_pos ((t : Int) + 1) (show (0 : Int) < xs.length by omega); omega
  have hbl := lt_of_cell (hc i hil).1
  obtain ⟨c1, c2, c3⟩ := hc i hil
  obtain ⟨y, hy⟩ : ∃ y, xs[i]?.getD 0 = y := ⟨_, rfl⟩
  rw [hy] at c1 c2 c3
  obtain ⟨S, hS⟩ : ∃ S, w.heap.size = S := ⟨_, rfl⟩
  obtain ⟨W, hW⟩ : ∃ W, w.alloc (.cells #[.int .i64 lo, .int .i64 hi] 23) = W := ⟨_, rfl⟩
  have k : Keeps w W := by rw [← hW]; exact (Keeps.refl w).alloc _
  have s0 : W.cell? ⟨S, 0, none⟩ = some (.int .i64 lo) := by rw [← hW, ← hS]; simp [go_sem]
  have s1 : W.cell? ⟨S, 1, none⟩ = some (.int .i64 hi) := by rw [← hW, ← hS]; simp [go_sem]
  have hlx := lt_of_cell hx
  have x0 := k.cell hx
  have x1 := (k.cells.2 _ 0 hlx).trans hf
  have b0 := k.cell hb
  have u0 := k.cell c1
  have hbS : bx ≠ S := by omega
  have hbS3 : b ≠ S := by omega
  have hbS2 : bb ≠ S := by have := lt_of_cell hb; omega
  obtain ⟨tn, htn⟩ : ∃ tn : Int, ((t + 1 : Nat) : Int) = tn := ⟨_, rfl⟩
  have ht1 : (t : Int) + 1 = tn := by omega
  obtain ⟨X, hX⟩ : ∃ X, W.setCell ⟨bx, 0, none⟩ (.int .i64 tn) = X := ⟨_, rfl⟩
  have y0 : X.cell? ⟨bx, 0, none⟩ = some (.int .i64 tn) := by rw [← hX]; exact cell_set_same (by rw [x0]; rfl)
  have y1 : X.cell? ⟨bb, 0, none⟩ = some (.slice (some ⟨b, o, none⟩) xs.length cap) := by rw [← hX]; exact (cell_set_other (by omega)).trans b0
  have y3 : X.cell? ⟨b, o + i, none⟩ = some (.int .u16 y) := by rw [← hX]; exact (cell_set_other (by omega)).trans u0
  have y4 : X.cell? ⟨S, 1, none⟩ = some (.int .i64 hi) := by rw [← hX]; exact (cell_set_other (by omega)).trans s1
  have y2 : X.cell? ⟨S, 0, none⟩ = some (.int .i64 lo) := by rw [← hX]; exact (cell_set_other (by omega)).trans s0
  have hK : Keeps (w.setCell ⟨bx, 0, none⟩ (.int .i64 tn)) X := by rw [← hX, ← hW]; exact set_alloc
  have l1 := lt_of_cell x0
  have l2 := lt_of_cell y1
  have l3 := lt_of_cell y2
  have hw1 : IntKind.i64.wrap tn = tn := IntWalk.i64_in _ (by constructor <;> omega)
  have l4 := lt_of_cell y3
  rw [ht1] at hi'
  have hw2 : IntKind.i64.wrap (43 * tn) = 43 * tn := IntWalk.i64_in _ (by constructor <;> omega)
  have hw3 : IntKind.i64.wrap (y + 43 * tn) = y + 43 * tn := IntWalk.i64_in _ (by constructor <;> omega)
  have hw4 : IntKind.i64.wrap (hi - lo) = hi - lo := IntWalk.i64_in _ (by constructor <;> omega)
  have hw5 : IntKind.i64.wrap (hi - lo + 1) = hi - lo + 1 := IntWalk.i64_in _ (by constructor <;> omega)
  have hk0 : ¬ (hi - lo + 1 = 0) := by omega
  obtain ⟨r1, r2⟩ := rem_in (x := y + 43 * tn) hlh
  have hw6 : IntKind.i64.wrap (lo + (y + 43 * tn) % (hi - lo + 1)) = lo + (y + 43 * tn) % (hi - lo + 1) := IntWalk.i64_in _ (by constructor <;> omega)
  obtain ⟨z, hz⟩ : ∃ z, lo + (y + 43 * tn) % (hi - lo + 1) = z := ⟨_, rfl⟩
  rw [hz] at r1 r2 hw6
  have HZ := Lib.hid hz
  have hne0 : ((xs.length : Int) == 0) = false := by rw [beq_eq_false_iff_ne]; omega
  have hz64 := Lib.hid (show wrap64 z = z by unfold wrap64; omega)
  unfold Drawn
  rw [htn]
  clear hx hf hb htn hc hy c1 hl hU hz
  go_enter Try.func110, Try.ntmps110
  go_wp2_with fail
  go_big_quiet (fail)
  rw [HZ.out, hz64.out]
  go_wp2_with fail
  go_ret
  exact ⟨z, rfl, r1, r2, hK.drewN _⟩
theorem draw_any (bx bb cap : Nat) (a : Option Addr) (xs : List Int) (t : Nat) (lo hi : Int) (w : World) (h : Drw w bx bb a cap xs t) (hne : bb ≠ bx) (hbx : xs ≠ [] → ∀ b o, a = some ⟨b, o, none⟩ → b ≠ bx) (hl : xs.length ≤ maxLen) (hlh : lo ≤ hi) (t1 : t ≤ 1000) (l0 : -1000 ≤ lo) (l1 : hi ≤ 1000) :
    Calls Try.prog 110 #[.agg #[.int .i64 lo, .int .i64 hi], .pointer (some ⟨bx, 0, none⟩), .pointer (some ⟨bb, 0, none⟩)] w (Drawn bx t lo hi w) := by
  by_cases hx : xs = []
  · subst hx
    exact draw_none bx bb cap a t lo hi w h hne hlh t1
  · obtain ⟨b, o, rfl, _⟩ := h.u hx
    exact draw_some bx bb cap b o xs t lo hi w h hne (hbx hx b o rfl) (List.length_pos_iff.2 hx) hl hlh t1 l0 l1
end Go.Proofs.Ytdfiebfgmpdceaa
