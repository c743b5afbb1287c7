/-
  A CALL THAT ONLY RECKONS, RUN BY THE KERNEL: how many readings a set has.
  SETS OF READINGS: membership, the set of all.
-/
import Derived.Test.YtoidnbpbeblokaaWb
namespace Go.Proofs.Ytoidnbpbeblokaa
open Go.RowKit

/-- The goroutine's frame behind so many steps. -/
def frameOf : Stepped → Frame
  | .next m => match m.gs[0]? with
    | some g => g.frame
    | none => default
  | .ended _ _ => default
/-- How many steps a call takes until it is about to hand its result back. -/
noncomputable def untilBack (P : Program) (f : FuncId) : Nat → Machine → Nat
  | 0, _ => 0
  | k + 1, m =>
    match m.gs[0]? with
    | none => 0
    | some g => match g.frame.fn == f, g.frame.mode with
      | true, .returning => 0
      | _, _ => match step P m with
        | .next m' => untilBack P f k m' + 1
        | .ended _ _ => 0
theorem calls_of_run {P : Program} {f : FuncId} {args : Array Value} {w : World} {v : Value} (n : Nat) (fr : Frame) (h : ∀ cs, runN P n (lone (Frame.enter P f args .normal) cs w) = .next (lone fr cs w)) (hf : fr.fn = f)
    (hl : fr.leaving P w (.returned v)) : Calls P f args w fun e w' => e = .returned v ∧ w = w' :=
  fun cs => ⟨.returned v, w, fr, ⟨rfl, rfl⟩, ⟨n, h cs⟩, hf, hl⟩

/-- How many readings a set of at most six has. -/
def pop (s : Nat) : Nat := (List.range 6).foldl (fun n i => n + s / 2 ^ i % 2) 0
noncomputable def nOf (s : Int) (w : World) : Nat := untilBack Try.prog 57 200 (lone (Frame.enter Try.prog 57 #[.int .i64 s] .normal) [] w)
noncomputable def frOf (s : Int) (w : World) : Frame := frameOf (runN Try.prog (nOf s w) (lone (Frame.enter Try.prog 57 #[.int .i64 s] .normal) [] w))
def SizeRun (s : Nat) : Prop := ∀ w, (∀ cs, runN Try.prog (nOf s w) (lone (Frame.enter Try.prog 57 #[.int .i64 s] .normal) cs w) = .next (lone (frOf s w) cs w)) ∧ (frOf s w).fn = 57 ∧ (frOf s w).mode = .returning ∧ (frOf s w).defers = [] ∧ (frOf s w).kind = .normal ∧
  (frOf s w).tmps.getD 2 undef = .int .i64 (pop s)
theorem SizeRun.calls {s : Nat} (h : SizeRun s) (w : World) : Calls Try.prog 57 #[.int .i64 s] w fun e w' => e = .returned (.int .i64 (pop s)) ∧ w = w' := by
  obtain ⟨h1, h2, h3, h4, h5, h6⟩ := h w
  refine calls_of_run _ _ h1 h2 ⟨h3, h4, h5, Try.f57, ?_, ?_⟩
  · rw [h2]; exact Try.func57
  · simp [results, Try.results57, go_sem, ← h6]
theorem size_0 : SizeRun 0 := fun w => ⟨fun cs => by kernel_rfl, by kernel_rfl, by kernel_rfl, by kernel_rfl, by kernel_rfl, by kernel_rfl⟩
theorem size_1 : SizeRun 1 := fun w => ⟨fun cs => by kernel_rfl, by kernel_rfl, by kernel_rfl, by kernel_rfl, by kernel_rfl, by kernel_rfl⟩
theorem size_2 : SizeRun 2 := fun w => ⟨fun cs => by kernel_rfl, by kernel_rfl, by kernel_rfl, by kernel_rfl, by kernel_rfl, by kernel_rfl⟩
theorem size_3 : SizeRun 3 := fun w => ⟨fun cs => by kernel_rfl, by kernel_rfl, by kernel_rfl, by kernel_rfl, by kernel_rfl, by kernel_rfl⟩
theorem size_4 : SizeRun 4 := fun w => ⟨fun cs => by kernel_rfl, by kernel_rfl, by kernel_rfl, by kernel_rfl, by kernel_rfl, by kernel_rfl⟩
theorem size_5 : SizeRun 5 := fun w => ⟨fun cs => by kernel_rfl, by kernel_rfl, by kernel_rfl, by kernel_rfl, by kernel_rfl, by kernel_rfl⟩
theorem size_6 : SizeRun 6 := fun w => ⟨fun cs => by kernel_rfl, by kernel_rfl, by kernel_rfl, by kernel_rfl, by kernel_rfl, by kernel_rfl⟩
theorem size_7 : SizeRun 7 := fun w => ⟨fun cs => by kernel_rfl, by kernel_rfl, by kernel_rfl, by kernel_rfl, by kernel_rfl, by kernel_rfl⟩
theorem size_8 : SizeRun 8 := fun w => ⟨fun cs => by kernel_rfl, by kernel_rfl, by kernel_rfl, by kernel_rfl, by kernel_rfl, by kernel_rfl⟩
theorem size_9 : SizeRun 9 := fun w => ⟨fun cs => by kernel_rfl, by kernel_rfl, by kernel_rfl, by kernel_rfl, by kernel_rfl, by kernel_rfl⟩
theorem size_10 : SizeRun 10 := fun w => ⟨fun cs => by kernel_rfl, by kernel_rfl, by kernel_rfl, by kernel_rfl, by kernel_rfl, by kernel_rfl⟩
theorem size_11 : SizeRun 11 := fun w => ⟨fun cs => by kernel_rfl, by kernel_rfl, by kernel_rfl, by kernel_rfl, by kernel_rfl, by kernel_rfl⟩
theorem size_12 : SizeRun 12 := fun w => ⟨fun cs => by kernel_rfl, by kernel_rfl, by kernel_rfl, by kernel_rfl, by kernel_rfl, by kernel_rfl⟩
theorem size_13 : SizeRun 13 := fun w => ⟨fun cs => by kernel_rfl, by kernel_rfl, by kernel_rfl, by kernel_rfl, by kernel_rfl, by kernel_rfl⟩
theorem size_14 : SizeRun 14 := fun w => ⟨fun cs => by kernel_rfl, by kernel_rfl, by kernel_rfl, by kernel_rfl, by kernel_rfl, by kernel_rfl⟩
theorem size_15 : SizeRun 15 := fun w => ⟨fun cs => by kernel_rfl, by kernel_rfl, by kernel_rfl, by kernel_rfl, by kernel_rfl, by kernel_rfl⟩
theorem size_16 : SizeRun 16 := fun w => ⟨fun cs => by kernel_rfl, by kernel_rfl, by kernel_rfl, by kernel_rfl, by kernel_rfl, by kernel_rfl⟩
theorem size_17 : SizeRun 17 := fun w => ⟨fun cs => by kernel_rfl, by kernel_rfl, by kernel_rfl, by kernel_rfl, by kernel_rfl, by kernel_rfl⟩
theorem size_18 : SizeRun 18 := fun w => ⟨fun cs => by kernel_rfl, by kernel_rfl, by kernel_rfl, by kernel_rfl, by kernel_rfl, by kernel_rfl⟩
theorem size_19 : SizeRun 19 := fun w => ⟨fun cs => by kernel_rfl, by kernel_rfl, by kernel_rfl, by kernel_rfl, by kernel_rfl, by kernel_rfl⟩
theorem size_20 : SizeRun 20 := fun w => ⟨fun cs => by kernel_rfl, by kernel_rfl, by kernel_rfl, by kernel_rfl, by kernel_rfl, by kernel_rfl⟩
theorem size_21 : SizeRun 21 := fun w => ⟨fun cs => by kernel_rfl, by kernel_rfl, by kernel_rfl, by kernel_rfl, by kernel_rfl, by kernel_rfl⟩
theorem size_22 : SizeRun 22 := fun w => ⟨fun cs => by kernel_rfl, by kernel_rfl, by kernel_rfl, by kernel_rfl, by kernel_rfl, by kernel_rfl⟩
theorem size_23 : SizeRun 23 := fun w => ⟨fun cs => by kernel_rfl, by kernel_rfl, by kernel_rfl, by kernel_rfl, by kernel_rfl, by kernel_rfl⟩
theorem size_24 : SizeRun 24 := fun w => ⟨fun cs => by kernel_rfl, by kernel_rfl, by kernel_rfl, by kernel_rfl, by kernel_rfl, by kernel_rfl⟩
theorem size_25 : SizeRun 25 := fun w => ⟨fun cs => by kernel_rfl, by kernel_rfl, by kernel_rfl, by kernel_rfl, by kernel_rfl, by kernel_rfl⟩
theorem size_26 : SizeRun 26 := fun w => ⟨fun cs => by kernel_rfl, by kernel_rfl, by kernel_rfl, by kernel_rfl, by kernel_rfl, by kernel_rfl⟩
theorem size_27 : SizeRun 27 := fun w => ⟨fun cs => by kernel_rfl, by kernel_rfl, by kernel_rfl, by kernel_rfl, by kernel_rfl, by kernel_rfl⟩
theorem size_28 : SizeRun 28 := fun w => ⟨fun cs => by kernel_rfl, by kernel_rfl, by kernel_rfl, by kernel_rfl, by kernel_rfl, by kernel_rfl⟩
theorem size_29 : SizeRun 29 := fun w => ⟨fun cs => by kernel_rfl, by kernel_rfl, by kernel_rfl, by kernel_rfl, by kernel_rfl, by kernel_rfl⟩
theorem size_30 : SizeRun 30 := fun w => ⟨fun cs => by kernel_rfl, by kernel_rfl, by kernel_rfl, by kernel_rfl, by kernel_rfl, by kernel_rfl⟩
theorem size_31 : SizeRun 31 := fun w => ⟨fun cs => by kernel_rfl, by kernel_rfl, by kernel_rfl, by kernel_rfl, by kernel_rfl, by kernel_rfl⟩
theorem size_32 : SizeRun 32 := fun w => ⟨fun cs => by kernel_rfl, by kernel_rfl, by kernel_rfl, by kernel_rfl, by kernel_rfl, by kernel_rfl⟩
theorem size_33 : SizeRun 33 := fun w => ⟨fun cs => by kernel_rfl, by kernel_rfl, by kernel_rfl, by kernel_rfl, by kernel_rfl, by kernel_rfl⟩
theorem size_34 : SizeRun 34 := fun w => ⟨fun cs => by kernel_rfl, by kernel_rfl, by kernel_rfl, by kernel_rfl, by kernel_rfl, by kernel_rfl⟩
theorem size_35 : SizeRun 35 := fun w => ⟨fun cs => by kernel_rfl, by kernel_rfl, by kernel_rfl, by kernel_rfl, by kernel_rfl, by kernel_rfl⟩
theorem size_36 : SizeRun 36 := fun w => ⟨fun cs => by kernel_rfl, by kernel_rfl, by kernel_rfl, by kernel_rfl, by kernel_rfl, by kernel_rfl⟩
theorem size_37 : SizeRun 37 := fun w => ⟨fun cs => by kernel_rfl, by kernel_rfl, by kernel_rfl, by kernel_rfl, by kernel_rfl, by kernel_rfl⟩
theorem size_38 : SizeRun 38 := fun w => ⟨fun cs => by kernel_rfl, by kernel_rfl, by kernel_rfl, by kernel_rfl, by kernel_rfl, by kernel_rfl⟩
theorem size_39 : SizeRun 39 := fun w => ⟨fun cs => by kernel_rfl, by kernel_rfl, by kernel_rfl, by kernel_rfl, by kernel_rfl, by kernel_rfl⟩
theorem size_40 : SizeRun 40 := fun w => ⟨fun cs => by kernel_rfl, by kernel_rfl, by kernel_rfl, by kernel_rfl, by kernel_rfl, by kernel_rfl⟩
theorem size_41 : SizeRun 41 := fun w => ⟨fun cs => by kernel_rfl, by kernel_rfl, by kernel_rfl, by kernel_rfl, by kernel_rfl, by kernel_rfl⟩
theorem size_42 : SizeRun 42 := fun w => ⟨fun cs => by kernel_rfl, by kernel_rfl, by kernel_rfl, by kernel_rfl, by kernel_rfl, by kernel_rfl⟩
theorem size_43 : SizeRun 43 := fun w => ⟨fun cs => by kernel_rfl, by kernel_rfl, by kernel_rfl, by kernel_rfl, by kernel_rfl, by kernel_rfl⟩
theorem size_44 : SizeRun 44 := fun w => ⟨fun cs => by kernel_rfl, by kernel_rfl, by kernel_rfl, by kernel_rfl, by kernel_rfl, by kernel_rfl⟩
theorem size_45 : SizeRun 45 := fun w => ⟨fun cs => by kernel_rfl, by kernel_rfl, by kernel_rfl, by kernel_rfl, by kernel_rfl, by kernel_rfl⟩
theorem size_46 : SizeRun 46 := fun w => ⟨fun cs => by kernel_rfl, by kernel_rfl, by kernel_rfl, by kernel_rfl, by kernel_rfl, by kernel_rfl⟩
theorem size_47 : SizeRun 47 := fun w => ⟨fun cs => by kernel_rfl, by kernel_rfl, by kernel_rfl, by kernel_rfl, by kernel_rfl, by kernel_rfl⟩
theorem size_48 : SizeRun 48 := fun w => ⟨fun cs => by kernel_rfl, by kernel_rfl, by kernel_rfl, by kernel_rfl, by kernel_rfl, by kernel_rfl⟩
theorem size_49 : SizeRun 49 := fun w => ⟨fun cs => by kernel_rfl, by kernel_rfl, by kernel_rfl, by kernel_rfl, by kernel_rfl, by kernel_rfl⟩
theorem size_50 : SizeRun 50 := fun w => ⟨fun cs => by kernel_rfl, by kernel_rfl, by kernel_rfl, by kernel_rfl, by kernel_rfl, by kernel_rfl⟩
theorem size_51 : SizeRun 51 := fun w => ⟨fun cs => by kernel_rfl, by kernel_rfl, by kernel_rfl, by kernel_rfl, by kernel_rfl, by kernel_rfl⟩
theorem size_52 : SizeRun 52 := fun w => ⟨fun cs => by kernel_rfl, by kernel_rfl, by kernel_rfl, by kernel_rfl, by kernel_rfl, by kernel_rfl⟩
theorem size_53 : SizeRun 53 := fun w => ⟨fun cs => by kernel_rfl, by kernel_rfl, by kernel_rfl, by kernel_rfl, by kernel_rfl, by kernel_rfl⟩
theorem size_54 : SizeRun 54 := fun w => ⟨fun cs => by kernel_rfl, by kernel_rfl, by kernel_rfl, by kernel_rfl, by kernel_rfl, by kernel_rfl⟩
theorem size_55 : SizeRun 55 := fun w => ⟨fun cs => by kernel_rfl, by kernel_rfl, by kernel_rfl, by kernel_rfl, by kernel_rfl, by kernel_rfl⟩
theorem size_56 : SizeRun 56 := fun w => ⟨fun cs => by kernel_rfl, by kernel_rfl, by kernel_rfl, by kernel_rfl, by kernel_rfl, by kernel_rfl⟩
theorem size_57 : SizeRun 57 := fun w => ⟨fun cs => by kernel_rfl, by kernel_rfl, by kernel_rfl, by kernel_rfl, by kernel_rfl, by kernel_rfl⟩
theorem size_58 : SizeRun 58 := fun w => ⟨fun cs => by kernel_rfl, by kernel_rfl, by kernel_rfl, by kernel_rfl, by kernel_rfl, by kernel_rfl⟩
theorem size_59 : SizeRun 59 := fun w => ⟨fun cs => by kernel_rfl, by kernel_rfl, by kernel_rfl, by kernel_rfl, by kernel_rfl, by kernel_rfl⟩
theorem size_60 : SizeRun 60 := fun w => ⟨fun cs => by kernel_rfl, by kernel_rfl, by kernel_rfl, by kernel_rfl, by kernel_rfl, by kernel_rfl⟩
theorem size_61 : SizeRun 61 := fun w => ⟨fun cs => by kernel_rfl, by kernel_rfl, by kernel_rfl, by kernel_rfl, by kernel_rfl, by kernel_rfl⟩
theorem size_62 : SizeRun 62 := fun w => ⟨fun cs => by kernel_rfl, by kernel_rfl, by kernel_rfl, by kernel_rfl, by kernel_rfl, by kernel_rfl⟩
theorem size_63 : SizeRun 63 := fun w => ⟨fun cs => by kernel_rfl, by kernel_rfl, by kernel_rfl, by kernel_rfl, by kernel_rfl, by kernel_rfl⟩
theorem size_any (s : Nat) (h : s < 64) (w : World) : Calls Try.prog 57 #[.int .i64 s] w fun e w' => e = .returned (.int .i64 (pop s)) ∧ w = w' := by
  match s, h with
  | 0, _ => exact size_0.calls w
  | 1, _ => exact size_1.calls w
  | 2, _ => exact size_2.calls w
  | 3, _ => exact size_3.calls w
  | 4, _ => exact size_4.calls w
  | 5, _ => exact size_5.calls w
  | 6, _ => exact size_6.calls w
  | 7, _ => exact size_7.calls w
  | 8, _ => exact size_8.calls w
  | 9, _ => exact size_9.calls w
  | 10, _ => exact size_10.calls w
  | 11, _ => exact size_11.calls w
  | 12, _ => exact size_12.calls w
  | 13, _ => exact size_13.calls w
  | 14, _ => exact size_14.calls w
  | 15, _ => exact size_15.calls w
  | 16, _ => exact size_16.calls w
  | 17, _ => exact size_17.calls w
  | 18, _ => exact size_18.calls w
  | 19, _ => exact size_19.calls w
  | 20, _ => exact size_20.calls w
  | 21, _ => exact size_21.calls w
  | 22, _ => exact size_22.calls w
  | 23, _ => exact size_23.calls w
  | 24, _ => exact size_24.calls w
  | 25, _ => exact size_25.calls w
  | 26, _ => exact size_26.calls w
  | 27, _ => exact size_27.calls w
  | 28, _ => exact size_28.calls w
  | 29, _ => exact size_29.calls w
  | 30, _ => exact size_30.calls w
  | 31, _ => exact size_31.calls w
  | 32, _ => exact size_32.calls w
  | 33, _ => exact size_33.calls w
  | 34, _ => exact size_34.calls w
  | 35, _ => exact size_35.calls w
  | 36, _ => exact size_36.calls w
  | 37, _ => exact size_37.calls w
  | 38, _ => exact size_38.calls w
  | 39, _ => exact size_39.calls w
  | 40, _ => exact size_40.calls w
  | 41, _ => exact size_41.calls w
  | 42, _ => exact size_42.calls w
  | 43, _ => exact size_43.calls w
  | 44, _ => exact size_44.calls w
  | 45, _ => exact size_45.calls w
  | 46, _ => exact size_46.calls w
  | 47, _ => exact size_47.calls w
  | 48, _ => exact size_48.calls w
  | 49, _ => exact size_49.calls w
  | 50, _ => exact size_50.calls w
  | 51, _ => exact size_51.calls w
  | 52, _ => exact size_52.calls w
  | 53, _ => exact size_53.calls w
  | 54, _ => exact size_54.calls w
  | 55, _ => exact size_55.calls w
  | 56, _ => exact size_56.calls w
  | 57, _ => exact size_57.calls w
  | 58, _ => exact size_58.calls w
  | 59, _ => exact size_59.calls w
  | 60, _ => exact size_60.calls w
  | 61, _ => exact size_61.calls w
  | 62, _ => exact size_62.calls w
  | 63, _ => exact size_63.calls w
  | n + 64, h => exact absurd h (by omega)
end Go.Proofs.Ytoidnbpbeblokaa

namespace Go.Proofs.Ytoidnbpbeblokaa
open Go.RowKit

/-- Is reading n in the set s? -/
def hasB (s n : Nat) : Bool := (s >>> n) % 2 == 1
theorem has_bits : ∀ s : Nat, s < 64 → ∀ n : Nat, n < 6 → (bits BinOp.and IntKind.i64 ((s : Int) / 2 ^ n) 1 == 1) = hasB s n := by decide +kernel
set_option maxHeartbeats 1600000 in
theorem has_any (s n : Nat) (hs : s < 64) (hn : n < 6) (w : World) :
    Calls Try.prog 97 #[.int .i64 s, .int .i64 n] w fun e w' => e = .returned (.bool (hasB s n)) ∧ w = w' := by
  have hb := has_bits s hs n hn
  have Hb := Lib.hid hb
  clear hb
  go_enter Try.func97, Try.ntmps97
  go_wp2
  rw [Hb.out]
  go_ret
  exact ⟨rfl, rfl⟩

noncomputable def nFull (k : Nat) (w : World) : Nat := untilBack Try.prog 63 200 (lone (Frame.enter Try.prog 63 #[.int .i64 k] .normal) [] w)
noncomputable def frFull (k : Nat) (w : World) : Frame := frameOf (runN Try.prog (nFull k w) (lone (Frame.enter Try.prog 63 #[.int .i64 k] .normal) [] w))
def FullRun (k : Nat) : Prop := ∀ w, (∀ cs, runN Try.prog (nFull k w) (lone (Frame.enter Try.prog 63 #[.int .i64 k] .normal) cs w) = .next (lone (frFull k w) cs w)) ∧ (frFull k w).fn = 63 ∧ (frFull k w).mode = .returning ∧ (frFull k w).defers = [] ∧ (frFull k w).kind = .normal ∧
  (frFull k w).tmps.getD 2 undef = .int .i64 ((2 ^ k - 1 : Nat) : Int)
theorem FullRun.calls {s : Nat} (h : FullRun s) (w : World) : Calls Try.prog 63 #[.int .i64 s] w fun e w' => e = .returned (.int .i64 ((2 ^ s - 1 : Nat) : Int)) ∧ w = w' := by
  obtain ⟨h1, h2, h3, h4, h5, h6⟩ := h w
  refine calls_of_run _ _ h1 h2 ⟨h3, h4, h5, Try.f63, ?_, ?_⟩
  · rw [h2]; exact Try.func63
  · simp [results, Try.results63, go_sem, ← h6]
theorem full_0 : FullRun 0 := fun w => ⟨fun cs => by kernel_rfl, by kernel_rfl, by kernel_rfl, by kernel_rfl, by kernel_rfl, by kernel_rfl⟩
theorem full_1 : FullRun 1 := fun w => ⟨fun cs => by kernel_rfl, by kernel_rfl, by kernel_rfl, by kernel_rfl, by kernel_rfl, by kernel_rfl⟩
theorem full_2 : FullRun 2 := fun w => ⟨fun cs => by kernel_rfl, by kernel_rfl, by kernel_rfl, by kernel_rfl, by kernel_rfl, by kernel_rfl⟩
theorem full_3 : FullRun 3 := fun w => ⟨fun cs => by kernel_rfl, by kernel_rfl, by kernel_rfl, by kernel_rfl, by kernel_rfl, by kernel_rfl⟩
theorem full_4 : FullRun 4 := fun w => ⟨fun cs => by kernel_rfl, by kernel_rfl, by kernel_rfl, by kernel_rfl, by kernel_rfl, by kernel_rfl⟩
theorem full_5 : FullRun 5 := fun w => ⟨fun cs => by kernel_rfl, by kernel_rfl, by kernel_rfl, by kernel_rfl, by kernel_rfl, by kernel_rfl⟩
theorem full_6 : FullRun 6 := fun w => ⟨fun cs => by kernel_rfl, by kernel_rfl, by kernel_rfl, by kernel_rfl, by kernel_rfl, by kernel_rfl⟩
theorem full_any (k : Nat) (h : k < 7) (w : World) : Calls Try.prog 63 #[.int .i64 k] w fun e w' => e = .returned (.int .i64 ((2 ^ k - 1 : Nat) : Int)) ∧ w = w' := by
  match k, h with
  | 0, _ => exact full_0.calls w
  | 1, _ => exact full_1.calls w
  | 2, _ => exact full_2.calls w
  | 3, _ => exact full_3.calls w
  | 4, _ => exact full_4.calls w
  | 5, _ => exact full_5.calls w
  | 6, _ => exact full_6.calls w
  | n + 7, h => exact absurd h (by omega)
end Go.Proofs.Ytoidnbpbeblokaa
