/-
  SETS OF READINGS: membership, the set of all.
-/
import Derived.Test.YtgbojgachgodgaaWv
namespace Go.Proofs.Ytgbojgachgodgaa
open Go.RowKit

/-- Is reading n in the set s? -/
def hasB (s n : Nat) : Bool := (s >>> n) % 2 == 1
theorem has_bits : ∀ s : Nat, s < 64 → ∀ n : Nat, n < 6 → (bits BinOp.and IntKind.i64 ((s : Int) / 2 ^ n) 1 == 1) = hasB s n := by decide +kernel
set_option maxHeartbeats 1600000 in
theorem has_any (s n : Nat) (hs : s < 64) (hn : n < 6) (w : World) :
    Calls Try.prog 97 #[.int .i64 s, .int .i64 n] w fun e w' => e = .returned (.bool (hasB s n)) ∧ w = w' := by
  have hb := has_bits s hs n hn
  have Hb := Lib.hid hb
  clear hb
  go_enter Try.func97, Try.ntmps97
  go_wp2
  rw [Hb.out]
  go_ret
  exact ⟨rfl, rfl⟩

noncomputable def nFull (k : Nat) (w : World) : Nat := untilBack Try.prog 63 200 (lone (Frame.enter Try.prog 63 #[.int .i64 k] .normal) [] w)
noncomputable def frFull (k : Nat) (w : World) : Frame := frameOf (runN Try.prog (nFull k w) (lone (Frame.enter Try.prog 63 #[.int .i64 k] .normal) [] w))
def FullRun (k : Nat) : Prop := ∀ w, (∀ cs, runN Try.prog (nFull k w) (lone (Frame.enter Try.prog 63 #[.int .i64 k] .normal) cs w) = .next (lone (frFull k w) cs w)) ∧ (frFull k w).fn = 63 ∧ (frFull k w).mode = .returning ∧ (frFull k w).defers = [] ∧ (frFull k w).kind = .normal ∧
  (frFull k w).tmps.getD 2 undef = .int .i64 ((2 ^ k - 1 : Nat) : Int)
theorem FullRun.calls {s : Nat} (h : FullRun s) (w : World) : Calls Try.prog 63 #[.int .i64 s] w fun e w' => e = .returned (.int .i64 ((2 ^ s - 1 : Nat) : Int)) ∧ w = w' := by
  obtain ⟨h1, h2, h3, h4, h5, h6⟩ := h w
  refine calls_of_run _ _ h1 h2 ⟨h3, h4, h5, Try.f63, ?_, ?_⟩
  · rw [h2]; exact Try.func63
  · simp [results, Try.results63, go_sem, ← h6]
theorem full_0 : FullRun 0 := fun w => ⟨fun cs => by kernel_rfl, by kernel_rfl, by kernel_rfl, by kernel_rfl, by kernel_rfl, by kernel_rfl⟩
theorem full_1 : FullRun 1 := fun w => ⟨fun cs => by kernel_rfl, by kernel_rfl, by kernel_rfl, by kernel_rfl, by kernel_rfl, by kernel_rfl⟩
theorem full_2 : FullRun 2 := fun w => ⟨fun cs => by kernel_rfl, by kernel_rfl, by kernel_rfl, by kernel_rfl, by kernel_rfl, by kernel_rfl⟩
theorem full_3 : FullRun 3 := fun w => ⟨fun cs => by kernel_rfl, by kernel_rfl, by kernel_rfl, by kernel_rfl, by kernel_rfl, by kernel_rfl⟩
theorem full_4 : FullRun 4 := fun w => ⟨fun cs => by kernel_rfl, by kernel_rfl, by kernel_rfl, by kernel_rfl, by kernel_rfl, by kernel_rfl⟩
theorem full_5 : FullRun 5 := fun w => ⟨fun cs => by kernel_rfl, by kernel_rfl, by kernel_rfl, by kernel_rfl, by kernel_rfl, by kernel_rfl⟩
theorem full_6 : FullRun 6 := fun w => ⟨fun cs => by kernel_rfl, by kernel_rfl, by kernel_rfl, by kernel_rfl, by kernel_rfl, by kernel_rfl⟩
theorem full_any (k : Nat) (h : k < 7) (w : World) : Calls Try.prog 63 #[.int .i64 k] w fun e w' => e = .returned (.int .i64 ((2 ^ k - 1 : Nat) : Int)) ∧ w = w' := by
  match k, h with
  | 0, _ => exact full_0.calls w
  | 1, _ => exact full_1.calls w
  | 2, _ => exact full_2.calls w
  | 3, _ => exact full_3.calls w
  | 4, _ => exact full_4.calls w
  | 5, _ => exact full_5.calls w
  | 6, _ => exact full_6.calls w
  | n + 7, h => exact absurd h (by omega)
end Go.Proofs.Ytgbojgachgodgaa
