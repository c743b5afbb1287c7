/-
  WARM: the warmths at which a pair shows what was read: exact and vague readings.
-/
import Derived.RangeFuncNested
import Derived.RangeFuncBound
import Derived.RangeFuncCalls
import Derived.RangeFuncLeaves
import Derived.Shelf.Abstract
import Derived.Shelf.RegionOpen
import Derived.WalkKit
import Derived.OwnWalkIn
import Derived.TacticsInMore
import Derived.LoopNIn
import Derived.LoopIn
import Derived.Test.YtidiikmpgpnmpaaA7
namespace Go.Proofs.Ytidiikmpgpnmpaa
open Go.RowKit Go.Shelf
attribute [local go_sem] Oper.semAt_some

/-- A pair: a length and a coefficient; its mark is m. -/
def prV (m : Int) (p : Int × Int) : Value := .agg #[.int .i64 m, .int .i64 p.1, .int .i64 p.2]
def okP (m : Int) (p : Int × Int) : Prop := 1 ≤ m ∧ m ≤ 100 ∧ -1000 ≤ p.1 ∧ p.1 ≤ 1000 ∧ 0 ≤ p.2 ∧ p.2 ≤ 20
def shP (m : Int) (p : Int × Int) (t : Int) : Int := shI m p.1 p.2 t
/-- Does a pair show at a warmth what was read? -/
def hitB (m : Int) (p : Int × Int) (r : Wr) (t : Int) : Bool := decide (r.2.2.1 ≤ shP m p t ∧ shP m p t ≤ r.2.2.2)
def warmsTo (m : Int) (p : Int × Int) (r : Wr) (k : Nat) : List Int := ((List.range k).map (fun i : Nat => r.1 + (i : Int))).filter (hitB m p r)
/-- The warmths of a reading at which a pair shows what was read. -/
def warms (m : Int) (p : Int × Int) (r : Wr) : List Int := warmsTo m p r (r.2.1 + 1 - r.1).toNat
theorem warmsTo_zero (m : Int) (p : Int × Int) (r : Wr) : warmsTo m p r 0 = [] := rfl
theorem warmsTo_yes {m : Int} {p : Int × Int} {r : Wr} {k : Nat} (h : hitB m p r (r.1 + k) = true) : warmsTo m p r (k + 1) = warmsTo m p r k ++ [r.1 + k] := by
  simp [warmsTo, List.range_succ, h]
theorem warmsTo_no {m : Int} {p : Int × Int} {r : Wr} {k : Nat} (h : hitB m p r (r.1 + k) = false) : warmsTo m p r (k + 1) = warmsTo m p r k := by
  simp [warmsTo, List.range_succ, h]
theorem warmsTo_pre {m : Int} {p : Int × Int} {r : Wr} {k n : Nat} (h : k ≤ n) : warmsTo m p r k <+: warmsTo m p r n := by
  induction n with
  | zero => obtain rfl : k = 0 := by omega
            exact List.prefix_refl _
  | succ n ih =>
    by_cases e : k = n + 1
    · subst e; exact List.prefix_refl _
    · refine (ih (by omega)).trans ?_
      cases ha : hitB m p r (r.1 + n) with
      | true => rw [warmsTo_yes ha]; exact List.prefix_append _ _
      | false => rw [warmsTo_no ha]; exact List.prefix_refl _
/-- A reading, as the program keeps it. -/
def rdV (r : Wr) : Value := if r.1 = r.2.1 then .iface 135 (.agg #[.int .i64 r.1, .int .i64 r.2.2.1, .int .i64 r.2.2.2]) else .iface 137 (.agg #[.int .i64 r.1, .int .i64 r.2.2.1, .int .i64 r.2.2.2, .int .i64 r.2.1])
def okW (r : Wr) : Prop := -100 ≤ r.1 ∧ r.1 ≤ r.2.1 ∧ r.2.1 ≤ 100

/-- All blocks of cells, maps and map iterators but those of X are as they were. -/
structure KeepX (X : Nat → Prop) (W W' : World) : Prop where
  size : W.heap.size ≤ W'.heap.size
  same : ∀ k o, W.heap[k]? = some o → o.isCells = true ∨ o.isWalk = true → ¬ X k → W'.heap[k]? = some o
theorem KeepX.refl (X : Nat → Prop) (W : World) : KeepX X W W := ⟨Nat.le_refl _, fun _ _ h _ _ => h⟩
theorem KeepX.trans {X : Nat → Prop} {A B C : World} (h : KeepX X A B) (k : KeepX X B C) : KeepX X A C := ⟨Nat.le_trans h.size k.size, fun i o hi ho hx => k.same i o (h.same i o hi ho hx) ho hx⟩
theorem KeepX.of_keeps {X : Nat → Prop} {A B : World} (h : Keeps A B) : KeepX X A B := ⟨h.size, fun _ _ hk _ _ => (h.heap (Array.getElem?_eq_some_iff.1 hk).1).trans hk⟩
theorem KeepX.cell {X : Nat → Prop} {A B : World} (h : KeepX X A B) {k o : Nat} {v : Value} (hc : A.cell? ⟨k, o, none⟩ = some v) (hx : ¬ X k) : B.cell? ⟨k, o, none⟩ = some v := by
  cases e : A.heap[k]? with
  | none => simp [World.cell?, e] at hc
  | some b =>
    have hb : b.isCells = true := by
      cases b <;> first | rfl | simp [World.cell?, e] at hc
    exact (World.cell?_of_block ((h.same k b e (.inl hb) hx).trans e.symm)).trans hc
theorem KeepX.setCell {X : Nat → Prop} (A : World) {p : Addr} (v : Value) (hx : X p.block) : KeepX X A (A.setCell p v) :=
  ⟨by simp [World.setCell], fun k _ hk _ hX => (Below.heap_setCell _ _ _ _ (fun e => hX (by rw [e]; exact hx))).trans hk⟩
theorem KeepX.drewN {X : Nat → Prop} {A B : World} (h : KeepX X A B) (n : Nat) : KeepX X A (B.drewN n) := ⟨h.size, h.same⟩
theorem KeepX.putObj {w : World} {X : Nat → Prop} : ∀ (W : World) (l : Nat) (o o' : Obj), w.heap.size ≤ l → W.heap[l]? = some o → o.isCells = false → o.isWalk = false → KeepX X W (W.putObj l o') :=
  fun W l o o' _ hl h1 h2 => ⟨(grownBy_putObj' W l o').size, fun k ob hk ho _ => by
    by_cases e : k = l
    · subst e
      rw [hl] at hk
      cases hk
      rcases ho with h | h
      · rw [h1] at h; cases h
      · rw [h2] at h; cases h
    · exact (World.putObj_heap_other e).trans hk⟩

theorem exact_warmths (t slo shi : Int) (K : Nat) (q : Array Value) (w : World) : Calls Try.prog 134 #[.agg #[.int .i64 t, .int .i64 slo, .int .i64 shi], .func (.func K) q #[]] w fun e w' =>
    e = .returned (.func (.func 135) #[] #[.pointer (some ⟨w.heap.size, 0, none⟩), .pointer (some ⟨w.heap.size + 1, 0, none⟩)]) ∧ Keeps w w' ∧
      w'.cell? ⟨w.heap.size, 0, none⟩ = some (.int .i64 t) ∧ w'.cell? ⟨w.heap.size, 1, none⟩ = some (.int .i64 slo) ∧ w'.cell? ⟨w.heap.size, 2, none⟩ = some (.int .i64 shi) ∧ w'.cell? ⟨w.heap.size + 1, 0, none⟩ = some (.func (.func K) q #[]) := by
  have hmf : ∀ (fn : Fn) (first cap : Array Value) (w : World), (Instr.makeFunc fn first cap).run Try.prog w = .ok (.func fn first cap) w := fun _ _ _ _ => rfl
  have k0 := ((Keeps.refl w).alloc (.cells #[.int .i64 t, .int .i64 slo, .int .i64 shi] 135)).alloc (.cells #[.func (.func K) q #[]] 64)
  go_enter Try.func134, Try.ntmps134
  go_wp2
  go_ret
  exact ⟨rfl, k0, by simp [go_sem], by simp [go_sem], by simp [go_sem], by simp [go_sem]⟩
theorem vague_warmths (t slo shi l : Int) (K : Nat) (q : Array Value) (w : World) : Calls Try.prog 136 #[.agg #[.int .i64 t, .int .i64 slo, .int .i64 shi, .int .i64 l], .func (.func K) q #[]] w fun e w' =>
    e = .returned (.func (.func 137) #[] #[.pointer (some ⟨w.heap.size, 0, none⟩), .pointer (some ⟨w.heap.size + 1, 0, none⟩)]) ∧ Keeps w w' ∧
      w'.cell? ⟨w.heap.size, 0, none⟩ = some (.int .i64 t) ∧ w'.cell? ⟨w.heap.size, 1, none⟩ = some (.int .i64 slo) ∧ w'.cell? ⟨w.heap.size, 2, none⟩ = some (.int .i64 shi) ∧ w'.cell? ⟨w.heap.size, 3, none⟩ = some (.int .i64 l) ∧ w'.cell? ⟨w.heap.size + 1, 0, none⟩ = some (.func (.func K) q #[]) := by
  have hmf : ∀ (fn : Fn) (first cap : Array Value) (w : World), (Instr.makeFunc fn first cap).run Try.prog w = .ok (.func fn first cap) w := fun _ _ _ _ => rfl
  have k0 := ((Keeps.refl w).alloc (.cells #[.int .i64 t, .int .i64 slo, .int .i64 shi, .int .i64 l] 137)).alloc (.cells #[.func (.func K) q #[]] 64)
  go_enter Try.func136, Try.ntmps136
  go_wp2
  go_ret
  exact ⟨rfl, k0, by simp [go_sem], by simp [go_sem], by simp [go_sem], by simp [go_sem], by simp [go_sem]⟩
end Go.Proofs.Ytidiikmpgpnmpaa
