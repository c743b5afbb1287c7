/-
  WHAT SURVIVES A CALL: 'Keeps': all that lay there before lies as it lay; the posts that the contracts use.
-/
import Derived.Below
import Derived.WalkKit
import Derived.OwnWalk
import Derived.Lib.Hide
import Derived.Deep.QuietTactic
namespace Go.Proofs.Ytfjfkaaflghaiaa
open Go.RowKit

/-- All blocks that were there are as they were. -/
def Keeps (w w' : World) : Prop := Below w.heap.size w w'

theorem Keeps.refl (w : World) : Keeps w w := Below.refl _ w
theorem Keeps.trans {a b c : World} (h : Keeps a b) (k : Keeps b c) : Keeps a c :=
  Below.trans h (Below.mono k h.size)
theorem Keeps.size {a b : World} (h : Keeps a b) : a.heap.size ≤ b.heap.size := Below.size h
theorem Keeps.drew {a b : World} (h : Keeps a b) : Keeps a b.drew := Below.drew h
theorem Keeps.alloc {a b : World} (h : Keeps a b) (o : Obj) : Keeps a (b.alloc o) := Below.alloc h h.size o
theorem Keeps.setCell {a b : World} (h : Keeps a b) {p : Addr} (u : Value) (hp : a.heap.size ≤ p.block) : Keeps a (b.setCell p u) :=
  Below.setCell h hp u
theorem Keeps.cells {a b : World} (h : Keeps a b) :
    (∀ k o, k < a.heap.size → b.cell? ⟨k, o, none⟩ = a.cell? ⟨k, o, none⟩) ∧ (∀ k o, k < a.heap.size → b.frozen? ⟨k, o, none⟩ = a.frozen? ⟨k, o, none⟩) :=
  ⟨fun k o hk => Below.cell (p := ⟨k, o, none⟩) h hk, fun k o hk => Below.frozen (p := ⟨k, o, none⟩) h hk⟩
theorem Keeps.heap {a b : World} (h : Keeps a b) {k : Nat} (hk : k < a.heap.size) : b.heap[k]? = a.heap[k]? := h.block k hk
theorem lt_of_cell {w : World} {b o : Nat} {v : Value} (h : w.cell? ⟨b, o, none⟩ = some v) : b < w.heap.size := by
  rcases Nat.lt_or_ge b w.heap.size with h1 | h1
  · exact h1
  · simp [World.cell?, Array.getElem?_eq_none h1] at h

theorem cell_set_other {w : World} {b o b' o' : Nat} {v : Value} (h : b ≠ b' ∨ o ≠ o') : (w.setCell ⟨b, o, none⟩ v).cell? ⟨b', o', none⟩ = w.cell? ⟨b', o', none⟩ :=
  World.cell?_setCell_other _ _ _ _ (by intro e; injection e; omega)
theorem cell_set_same {w : World} {p : Addr} {v : Value} (h : (w.cell? p).isSome = true) : (w.setCell p v).cell? p = some v := World.cell?_setCell_same' w p v h

theorem Keeps.cell {a b : World} (h : Keeps a b) {k o : Nat} {v : Value} (hc : a.cell? ⟨k, o, none⟩ = some v) : b.cell? ⟨k, o, none⟩ = some v :=
  (h.cells.1 k o (lt_of_cell hc)).trans hc

/-- The call returns v. -/
def Ret (v : Value) (w : World) (e : Ending) (w' : World) : Prop := e = .returned v ∧ Keeps w w'
/-- The call returns a bool. -/
def RetB (b : Bool) (w : World) (e : Ending) (w' : World) : Prop := e = .returned (.bool b) ∧ Keeps w w'
/-- The call returns an int. -/
def RetI (n : Int) (w : World) (e : Ending) (w' : World) : Prop := e = .returned (.int .i64 n) ∧ Keeps w w'

theorem RetB.mk {b c : Bool} {w w' : World} (h : c = b) (k : Keeps w w') : RetB b w (.returned (.bool c)) w' := ⟨by rw [h], k⟩
theorem RetI.mk {b c : Int} {w w' : World} (h : c = b) (k : Keeps w w') : RetI b w (.returned (.int .i64 c)) w' := ⟨by rw [h], k⟩

end Go.Proofs.Ytfjfkaaflghaiaa
