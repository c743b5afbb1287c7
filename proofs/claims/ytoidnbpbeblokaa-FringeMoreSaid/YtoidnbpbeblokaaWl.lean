/-
  The exported functions whose answer is one value: each is what answer makes of its inner function.
-/
import Derived.Test.YtoidnbpbeblokaaWc
import Derived.Test.YtoidnbpbeblokaaWd
namespace Go.Proofs.Ytoidnbpbeblokaa
open Go.RowKit
/-- A call of answer, or of a function that asks it: a value, an error, and what is said of them. -/
def Ans (R : Value → Int → World → Prop) (w : World) (e : Ending) (w' : World) : Prop := ∃ v k, e = .returned (.tuple #[v, .int .i64 k]) ∧ R v k w' ∧ Keeps w w'

theorem enter_Count1 (caps : Array Value) (w : World) : (callFunc 73 caps).run Try.prog w = .ok (.enter 73 caps) w := by kernel_rfl
set_option maxHeartbeats 400000 in
theorem Count_by (F : Fr) (R : Value → Int → World → Prop) (w : World)
    (H : ∀ (w1 : World) (b0 : Nat), Keeps w w1 → F.Box w1 b0 → Calls Try.prog 61 #[.func (.func 73) #[] #[.pointer (some ⟨b0, 0, none⟩)]] w1 (Ans R w1)) :
    Calls Try.prog 23 #[F.v] w (Ans R w) := by
  have hmf : ∀ (fn : Fn) (first cap : Array Value) (w : World), (Instr.makeFunc fn first cap).run Try.prog w = .ok (.func fn first cap) w := fun _ _ _ _ => rfl
  have hB := fun w => Fr.Box.new F w
  obtain ⟨wa, wc, ws, lo, hi, ra, rc, rs⟩ := F
  dsimp only [Fr.v] at *
  have HH := Lib.hid H
  have HB := Lib.hid hB
  clear H hB
  go_enter Try.func23, Try.ntmps23
  go_wp2_with fail
  refine (HH.out _ w.heap.size ?_ ?_).mono ?_
  · exact (Keeps.refl _).alloc _
  · exact HB.out w
  rintro e w1 ⟨v, k, rfl, hR, k1⟩
  replace k1 := ((Keeps.refl _).alloc _).trans k1
  have HR := Lib.hid hR
  clear hR
  go_wp2_with fail
  go_ret2
  exact ⟨v, k, rfl, HR.out, k1⟩

theorem enter_Period1 (caps : Array Value) (w : World) : (callFunc 83 caps).run Try.prog w = .ok (.enter 83 caps) w := by kernel_rfl
set_option maxHeartbeats 400000 in
theorem Period_by (F : Fr) (R : Value → Int → World → Prop) (w : World)
    (H : ∀ (w1 : World) (b0 : Nat), Keeps w w1 → F.Box w1 b0 → Calls Try.prog 61 #[.func (.func 83) #[] #[.pointer (some ⟨b0, 0, none⟩)]] w1 (Ans R w1)) :
    Calls Try.prog 33 #[F.v] w (Ans R w) := by
  have hmf : ∀ (fn : Fn) (first cap : Array Value) (w : World), (Instr.makeFunc fn first cap).run Try.prog w = .ok (.func fn first cap) w := fun _ _ _ _ => rfl
  have hB := fun w => Fr.Box.new F w
  obtain ⟨wa, wc, ws, lo, hi, ra, rc, rs⟩ := F
  dsimp only [Fr.v] at *
  have HH := Lib.hid H
  have HB := Lib.hid hB
  clear H hB
  go_enter Try.func33, Try.ntmps33
  go_wp2_with fail
  refine (HH.out _ w.heap.size ?_ ?_).mono ?_
  · exact (Keeps.refl _).alloc _
  · exact HB.out w
  rintro e w1 ⟨v, k, rfl, hR, k1⟩
  replace k1 := ((Keeps.refl _).alloc _).trans k1
  have HR := Lib.hid hR
  clear hR
  go_wp2_with fail
  go_ret2
  exact ⟨v, k, rfl, HR.out, k1⟩

theorem enter_Clash1 (caps : Array Value) (w : World) : (callFunc 62 caps).run Try.prog w = .ok (.enter 62 caps) w := by kernel_rfl
set_option maxHeartbeats 400000 in
theorem Clash_by (F : Fr) (R : Value → Int → World → Prop) (w : World)
    (H : ∀ (w1 : World) (b0 : Nat), Keeps w w1 → F.Box w1 b0 → Calls Try.prog 61 #[.func (.func 62) #[] #[.pointer (some ⟨b0, 0, none⟩)]] w1 (Ans R w1)) :
    Calls Try.prog 18 #[F.v] w (Ans R w) := by
  have hmf : ∀ (fn : Fn) (first cap : Array Value) (w : World), (Instr.makeFunc fn first cap).run Try.prog w = .ok (.func fn first cap) w := fun _ _ _ _ => rfl
  have hB := fun w => Fr.Box.new F w
  obtain ⟨wa, wc, ws, lo, hi, ra, rc, rs⟩ := F
  dsimp only [Fr.v] at *
  have HH := Lib.hid H
  have HB := Lib.hid hB
  clear H hB
  go_enter Try.func18, Try.ntmps18
  go_wp2_with fail
  refine (HH.out _ w.heap.size ?_ ?_).mono ?_
  · exact (Keeps.refl _).alloc _
  · exact HB.out w
  rintro e w1 ⟨v, k, rfl, hR, k1⟩
  replace k1 := ((Keeps.refl _).alloc _).trans k1
  have HR := Lib.hid hR
  clear hR
  go_wp2_with fail
  go_ret2
  exact ⟨v, k, rfl, HR.out, k1⟩

theorem enter_Lengths1 (caps : Array Value) (w : World) : (callFunc 80 caps).run Try.prog w = .ok (.enter 80 caps) w := by kernel_rfl
set_option maxHeartbeats 400000 in
theorem Lengths_by (F : Fr) (R : Value → Int → World → Prop) (w : World)
    (H : ∀ (w1 : World) (b0 : Nat), Keeps w w1 → F.Box w1 b0 → Calls Try.prog 79 #[.func (.func 80) #[] #[.pointer (some ⟨b0, 0, none⟩)]] w1 (Ans R w1)) :
    Calls Try.prog 27 #[F.v] w (Ans R w) := by
  have hmf : ∀ (fn : Fn) (first cap : Array Value) (w : World), (Instr.makeFunc fn first cap).run Try.prog w = .ok (.func fn first cap) w := fun _ _ _ _ => rfl
  have hB := fun w => Fr.Box.new F w
  obtain ⟨wa, wc, ws, lo, hi, ra, rc, rs⟩ := F
  dsimp only [Fr.v] at *
  have HH := Lib.hid H
  have HB := Lib.hid hB
  clear H hB
  go_enter Try.func27, Try.ntmps27
  go_wp2_with fail
  refine (HH.out _ w.heap.size ?_ ?_).mono ?_
  · exact (Keeps.refl _).alloc _
  · exact HB.out w
  rintro e w1 ⟨v, k, rfl, hR, k1⟩
  replace k1 := ((Keeps.refl _).alloc _).trans k1
  have HR := Lib.hid hR
  clear hR
  go_wp2_with fail
  go_ret2
  exact ⟨v, k, rfl, HR.out, k1⟩

theorem enter_Near1 (caps : Array Value) (w : World) : (callFunc 66 caps).run Try.prog w = .ok (.enter 66 caps) w := by kernel_rfl
set_option maxHeartbeats 400000 in
theorem Near_by (F : Fr) (n : Int) (R : Value → Int → World → Prop) (w : World)
    (H : ∀ (w1 : World) (b0 b1 : Nat), Keeps w w1 → F.Box w1 b0 → w1.cell? ⟨b1, 0, none⟩ = some (.int .i64 n) → Calls Try.prog 61 #[.func (.func 66) #[] #[.pointer (some ⟨b0, 0, none⟩), .pointer (some ⟨b1, 0, none⟩)]] w1 (Ans R w1)) :
    Calls Try.prog 20 #[F.v, .int .i64 n] w (Ans R w) := by
  have hmf : ∀ (fn : Fn) (first cap : Array Value) (w : World), (Instr.makeFunc fn first cap).run Try.prog w = .ok (.func fn first cap) w := fun _ _ _ _ => rfl
  have hB := fun w => Fr.Box.new F w
  obtain ⟨wa, wc, ws, lo, hi, ra, rc, rs⟩ := F
  dsimp only [Fr.v] at *
  have HH := Lib.hid H
  have HB := Lib.hid hB
  clear H hB
  go_enter Try.func20, Try.ntmps20
  go_wp2_with fail
  refine (HH.out _ w.heap.size (w.heap.size + 1) ?_ ?_ ?_).mono ?_
  · exact ((Keeps.refl _).alloc _).alloc _
  · exact (HB.out w).keep ((Keeps.refl _).alloc _)
  · simp [go_sem]
  rintro e w1 ⟨v, k, rfl, hR, k1⟩
  replace k1 := (((Keeps.refl _).alloc _).alloc _).trans k1
  have HR := Lib.hid hR
  clear hR
  go_wp2_with fail
  go_ret2
  exact ⟨v, k, rfl, HR.out, k1⟩

theorem enter_Parts1 (caps : Array Value) (w : World) : (callFunc 78 caps).run Try.prog w = .ok (.enter 78 caps) w := by kernel_rfl
set_option maxHeartbeats 400000 in
theorem Parts_by (F : Fr) (n : Int) (R : Value → Int → World → Prop) (w : World)
    (H : ∀ (w1 : World) (b0 b1 : Nat), Keeps w w1 → F.Box w1 b0 → w1.cell? ⟨b1, 0, none⟩ = some (.int .i64 n) → Calls Try.prog 61 #[.func (.func 78) #[] #[.pointer (some ⟨b0, 0, none⟩), .pointer (some ⟨b1, 0, none⟩)]] w1 (Ans R w1)) :
    Calls Try.prog 26 #[F.v, .int .i64 n] w (Ans R w) := by
  have hmf : ∀ (fn : Fn) (first cap : Array Value) (w : World), (Instr.makeFunc fn first cap).run Try.prog w = .ok (.func fn first cap) w := fun _ _ _ _ => rfl
  have hB := fun w => Fr.Box.new F w
  obtain ⟨wa, wc, ws, lo, hi, ra, rc, rs⟩ := F
  dsimp only [Fr.v] at *
  have HH := Lib.hid H
  have HB := Lib.hid hB
  clear H hB
  go_enter Try.func26, Try.ntmps26
  go_wp2_with fail
  refine (HH.out _ w.heap.size (w.heap.size + 1) ?_ ?_ ?_).mono ?_
  · exact ((Keeps.refl _).alloc _).alloc _
  · exact (HB.out w).keep ((Keeps.refl _).alloc _)
  · simp [go_sem]
  rintro e w1 ⟨v, k, rfl, hR, k1⟩
  replace k1 := (((Keeps.refl _).alloc _).alloc _).trans k1
  have HR := Lib.hid hR
  clear hR
  go_wp2_with fail
  go_ret2
  exact ⟨v, k, rfl, HR.out, k1⟩

theorem enter_Whole1 (caps : Array Value) (w : World) : (callFunc 75 caps).run Try.prog w = .ok (.enter 75 caps) w := by kernel_rfl
set_option maxHeartbeats 400000 in
theorem Whole_by (F : Fr) (n : Int) (R : Value → Int → World → Prop) (w : World)
    (H : ∀ (w1 : World) (b0 b1 : Nat), Keeps w w1 → F.Box w1 b0 → w1.cell? ⟨b1, 0, none⟩ = some (.int .i64 n) → Calls Try.prog 74 #[.func (.func 75) #[] #[.pointer (some ⟨b0, 0, none⟩), .pointer (some ⟨b1, 0, none⟩)]] w1 (Ans R w1)) :
    Calls Try.prog 25 #[F.v, .int .i64 n] w (Ans R w) := by
  have hmf : ∀ (fn : Fn) (first cap : Array Value) (w : World), (Instr.makeFunc fn first cap).run Try.prog w = .ok (.func fn first cap) w := fun _ _ _ _ => rfl
  have hB := fun w => Fr.Box.new F w
  obtain ⟨wa, wc, ws, lo, hi, ra, rc, rs⟩ := F
  dsimp only [Fr.v] at *
  have HH := Lib.hid H
  have HB := Lib.hid hB
  clear H hB
  go_enter Try.func25, Try.ntmps25
  go_wp2_with fail
  refine (HH.out _ w.heap.size (w.heap.size + 1) ?_ ?_ ?_).mono ?_
  · exact ((Keeps.refl _).alloc _).alloc _
  · exact (HB.out w).keep ((Keeps.refl _).alloc _)
  · simp [go_sem]
  rintro e w1 ⟨v, k, rfl, hR, k1⟩
  replace k1 := (((Keeps.refl _).alloc _).alloc _).trans k1
  have HR := Lib.hid hR
  clear hR
  go_wp2_with fail
  go_ret2
  exact ⟨v, k, rfl, HR.out, k1⟩

end Go.Proofs.Ytoidnbpbeblokaa
