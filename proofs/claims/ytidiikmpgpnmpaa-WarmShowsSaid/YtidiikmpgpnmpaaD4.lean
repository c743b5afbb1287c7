/-
  WARM: setsOf: the sets of so many of the first readings, in order.
-/
import Derived.Test.YtidiikmpgpnmpaaA8
import Derived.Test.YtidiikmpgpnmpaaK
namespace Go.Proofs.Ytidiikmpgpnmpaa
open Go.RowKit Go.Shelf
attribute [local go_sem] Oper.semAt_some

/-- The sets of m more of the readings below b, with those of s, in order. -/
def growL : Nat → Nat → Nat → List Nat
  | 0, s, m => if 0 < m then [] else [s]
  | b + 1, s, m => if b + 1 < m then [] else growL b s m ++ (if m = 0 then [] else growL b (s ||| 2 ^ b) (m - 1))
theorem growL_long {b s m : Nat} (h : b < m) : growL b s m = [] := by
  cases b <;> simp [growL, h]
theorem growL_base (s : Nat) : growL 0 s 0 = [s] := by simp [growL]
theorem growL_step0 (b s : Nat) : growL (b + 1) s 0 = growL b s 0 := by simp [growL]
theorem growL_step {b s m : Nat} (h : m ≤ b) : growL (b + 1) s (m + 1) = growL b s (m + 1) ++ growL b (s ||| 2 ^ b) m := by
  rw [growL, if_neg (by omega), if_neg (by omega), Nat.add_sub_cancel]
theorem growL_lt {b : Nat} (hb : b ≤ 5) : ∀ s m, s < 32 → ∀ x ∈ growL b s m, x < 32 := by
  induction b with
  | zero =>
    intro s m hs x hx
    rw [growL] at hx
    split at hx
    · cases hx
    · rw [List.mem_singleton] at hx; omega
  | succ b ih =>
    intro s m hs x hx
    rw [growL] at hx
    split at hx
    · cases hx
    · rcases List.mem_append.1 hx with h | h
      · exact ih (by omega) s m hs x h
      · split at h
        · cases h
        · refine ih (by omega) _ _ ?_ x h
          have h2 : 2 ^ b < 2 ^ 5 := Nat.pow_lt_pow_right (by omega) (by omega)
          exact Nat.or_lt_two_pow (n := 5) (by omega) h2
/-- How many of the first five readings a set has. -/
def popW (s : Nat) : Nat := (List.range 5).foldl (fun n i => n + s / 2 ^ i % 2) 0
theorem growL_eq : ∀ n, n < 6 → ∀ m, m < 6 → growL n 0 m = (List.range (2 ^ n)).filter (fun x => popW x == m) := by decide +kernel
theorem yieldAt_wide {n m : Nat} {P : Program} {l : Nat} {args : Array Value} {W : World} {R : Ending → World → Prop} (h : YieldAt Fence.wide n P l args W R) : YieldAt Fence.wide m P l args W R :=
  let ⟨fn, tmps, assign, body, e, r⟩ := h
  ⟨fn, tmps, assign, body, e, ⟨r.1, fun c cs _ => r.2 c cs (room_wide _)⟩⟩
end Go.Proofs.Ytidiikmpgpnmpaa
