/-
  ENGINE: some cells after each other of an element of a row are written.
-/
import Derived.Test.YtfjfkaaflghaiaaGb
namespace Go.Proofs.Ytfjfkaaflghaiaa
open Go.RowKit

theorem flat_storeM {α : Type} {P : Program} {t : TypeId} {c : α → List Value} {n m : Nat} (hc : ∀ x, (c x).length = n) (hs : tySize P t = some m) {v : Value} {vs : List Value} (hv : v.cells.toList = vs) (hm : vs.length = m) (h1 : vs.all (·.oneCell') = true) {L : List α} {sp : List Value} {i k : Nat} {x : α} (hi : i < L.length) (hk : k + m ≤ n) (hx : c x = (c L[i]).take k ++ vs ++ (c L[i]).drop (k + m)) {off : Nat} (ho : off = i * n + k) : storeV P t (L.flatMap c ++ sp) off v = some ((L.set i x).flatMap c ++ sp) := by
  subst ho
  have hh := flat_head hc hi
  have hcl := hc L[i]
  have hle : i * n + k + m ≤ (L.flatMap c ++ sp).length := by have := flat_le (sp := sp) hc hi; omega
  unfold storeV
  rw [hs]
  dsimp only
  rw [hv, Nat.ble_eq_true_of_le hle, h1, hm]
  simp only [beq_self_eq_true, Bool.and_self, cond_true]
  refine congrArg some ?_
  have hi2 : i < (L.set i x).length := by rw [List.length_set]; exact hi
  rw [flat_at (c := c) (L := L.set i x) hi2, List.getElem_set_self, List.take_set_of_le (Nat.le_refl i), List.drop_set_of_lt (Nat.lt_succ_self i), hx, flat_at (c := c) hi]
  have e1 : ∀ R : List Value, ((L.take i).flatMap c ++ R).take (i * n + k) = (L.take i).flatMap c ++ R.take k := fun R => by rw [List.take_append, List.take_of_length_le (by omega), hh, Nat.add_sub_cancel_left]
  have e2 : ∀ R : List Value, ((L.take i).flatMap c ++ R).drop (i * n + k + m) = R.drop (k + m) := fun R => by rw [List.drop_append, List.drop_of_length_le (by omega), hh, List.nil_append, show i * n + k + m - i * n = k + m by omega]
  rw [e1, e2, List.take_append_of_le_length (by omega), List.drop_append_of_le_length (by omega)]
  simp
end Go.Proofs.Ytfjfkaaflghaiaa
