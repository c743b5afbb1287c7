/-
  The exported functions whose answer is one value: each is what answer makes of its inner function.
-/
import Derived.Test.YtoidnbpbeblokaaGreatWc
import Derived.Test.YtoidnbpbeblokaaGreatWd
namespace Go.Proofs.YtoidnbpbeblokaaGreat
open Go.RowKit
/-- A call of answer, or of a function that asks it: a value, an error, and what is said of them. -/
def Ans (R : Value → Int → World → Prop) (w : World) (e : Ending) (w' : World) : Prop := ∃ v k, e = .returned (.tuple #[v, .int .i64 k]) ∧ R v k w' ∧ Keeps w w'

theorem enter_Count1 (caps : Array Value) (w : World) : (callFunc 45 caps).run Tryz.prog w = .ok (.enter 45 caps) w := by kernel_rfl
set_option maxHeartbeats 400000 in
theorem Count_by (F : Fr) (R : Value → Int → World → Prop) (w : World)
    (H : ∀ (w1 : World) (b0 : Nat), Keeps w w1 → F.Box w1 b0 → Calls Tryz.prog 44 #[.func (.func 45) #[] #[.pointer (some ⟨b0, 0, none⟩)]] w1 (Ans R w1)) :
    Calls Tryz.prog 10 #[F.v] w (Ans R w) := by
  have hmf : ∀ (fn : Fn) (first cap : Array Value) (w : World), (Instr.makeFunc fn first cap).run Tryz.prog w = .ok (.func fn first cap) w := fun _ _ _ _ => rfl
  have hB := fun w => Fr.Box.new F w
  obtain ⟨wa, wc, ws, lo, hi, ra, rc, rs⟩ := F
  dsimp only [Fr.v] at *
  have HH := Lib.hid H
  have HB := Lib.hid hB
  clear H hB
  go_enter Tryz.func10, Tryz.ntmps10
  go_wp2_with fail
  refine (HH.out _ w.heap.size ?_ ?_).mono ?_
  · exact (Keeps.refl _).alloc _
  · exact HB.out w
  rintro e w1 ⟨v, k, rfl, hR, k1⟩
  replace k1 := ((Keeps.refl _).alloc _).trans k1
  have HR := Lib.hid hR
  clear hR
  go_wp2_with fail
  go_ret2
  exact ⟨v, k, rfl, HR.out, k1⟩

theorem enter_Period1 (caps : Array Value) (w : World) : (callFunc 57 caps).run Tryz.prog w = .ok (.enter 57 caps) w := by kernel_rfl
set_option maxHeartbeats 400000 in
theorem Period_by (F : Fr) (R : Value → Int → World → Prop) (w : World)
    (H : ∀ (w1 : World) (b0 : Nat), Keeps w w1 → F.Box w1 b0 → Calls Tryz.prog 44 #[.func (.func 57) #[] #[.pointer (some ⟨b0, 0, none⟩)]] w1 (Ans R w1)) :
    Calls Tryz.prog 19 #[F.v] w (Ans R w) := by
  have hmf : ∀ (fn : Fn) (first cap : Array Value) (w : World), (Instr.makeFunc fn first cap).run Tryz.prog w = .ok (.func fn first cap) w := fun _ _ _ _ => rfl
  have hB := fun w => Fr.Box.new F w
  obtain ⟨wa, wc, ws, lo, hi, ra, rc, rs⟩ := F
  dsimp only [Fr.v] at *
  have HH := Lib.hid H
  have HB := Lib.hid hB
  clear H hB
  go_enter Tryz.func19, Tryz.ntmps19
  go_wp2_with fail
  refine (HH.out _ w.heap.size ?_ ?_).mono ?_
  · exact (Keeps.refl _).alloc _
  · exact HB.out w
  rintro e w1 ⟨v, k, rfl, hR, k1⟩
  replace k1 := ((Keeps.refl _).alloc _).trans k1
  have HR := Lib.hid hR
  clear hR
  go_wp2_with fail
  go_ret2
  exact ⟨v, k, rfl, HR.out, k1⟩

theorem enter_Clash1 (caps : Array Value) (w : World) : (callFunc 73 caps).run Tryz.prog w = .ok (.enter 73 caps) w := by kernel_rfl
set_option maxHeartbeats 400000 in
theorem Clash_by (F : Fr) (R : Value → Int → World → Prop) (w : World)
    (H : ∀ (w1 : World) (b0 : Nat), Keeps w w1 → F.Box w1 b0 → Calls Tryz.prog 44 #[.func (.func 73) #[] #[.pointer (some ⟨b0, 0, none⟩)]] w1 (Ans R w1)) :
    Calls Tryz.prog 26 #[F.v] w (Ans R w) := by
  have hmf : ∀ (fn : Fn) (first cap : Array Value) (w : World), (Instr.makeFunc fn first cap).run Tryz.prog w = .ok (.func fn first cap) w := fun _ _ _ _ => rfl
  have hB := fun w => Fr.Box.new F w
  obtain ⟨wa, wc, ws, lo, hi, ra, rc, rs⟩ := F
  dsimp only [Fr.v] at *
  have HH := Lib.hid H
  have HB := Lib.hid hB
  clear H hB
  go_enter Tryz.func26, Tryz.ntmps26
  go_wp2_with fail
  refine (HH.out _ w.heap.size ?_ ?_).mono ?_
  · exact (Keeps.refl _).alloc _
  · exact HB.out w
  rintro e w1 ⟨v, k, rfl, hR, k1⟩
  replace k1 := ((Keeps.refl _).alloc _).trans k1
  have HR := Lib.hid hR
  clear hR
  go_wp2_with fail
  go_ret2
  exact ⟨v, k, rfl, HR.out, k1⟩

theorem enter_Lengths1 (caps : Array Value) (w : World) : (callFunc 39 caps).run Tryz.prog w = .ok (.enter 39 caps) w := by kernel_rfl
set_option maxHeartbeats 400000 in
theorem Lengths_by (F : Fr) (R : Value → Int → World → Prop) (w : World)
    (H : ∀ (w1 : World) (b0 : Nat), Keeps w w1 → F.Box w1 b0 → Calls Tryz.prog 38 #[.func (.func 39) #[] #[.pointer (some ⟨b0, 0, none⟩)]] w1 (Ans R w1)) :
    Calls Tryz.prog 8 #[F.v] w (Ans R w) := by
  have hmf : ∀ (fn : Fn) (first cap : Array Value) (w : World), (Instr.makeFunc fn first cap).run Tryz.prog w = .ok (.func fn first cap) w := fun _ _ _ _ => rfl
  have hB := fun w => Fr.Box.new F w
  obtain ⟨wa, wc, ws, lo, hi, ra, rc, rs⟩ := F
  dsimp only [Fr.v] at *
  have HH := Lib.hid H
  have HB := Lib.hid hB
  clear H hB
  go_enter Tryz.func8, Tryz.ntmps8
  go_wp2_with fail
  refine (HH.out _ w.heap.size ?_ ?_).mono ?_
  · exact (Keeps.refl _).alloc _
  · exact HB.out w
  rintro e w1 ⟨v, k, rfl, hR, k1⟩
  replace k1 := ((Keeps.refl _).alloc _).trans k1
  have HR := Lib.hid hR
  clear hR
  go_wp2_with fail
  go_ret2
  exact ⟨v, k, rfl, HR.out, k1⟩

theorem enter_Near1 (caps : Array Value) (w : World) : (callFunc 47 caps).run Tryz.prog w = .ok (.enter 47 caps) w := by kernel_rfl
set_option maxHeartbeats 400000 in
theorem Near_by (F : Fr) (n : Int) (R : Value → Int → World → Prop) (w : World)
    (H : ∀ (w1 : World) (b0 b1 : Nat), Keeps w w1 → F.Box w1 b0 → w1.cell? ⟨b1, 0, none⟩ = some (.int .i64 n) → Calls Tryz.prog 44 #[.func (.func 47) #[] #[.pointer (some ⟨b0, 0, none⟩), .pointer (some ⟨b1, 0, none⟩)]] w1 (Ans R w1)) :
    Calls Tryz.prog 13 #[F.v, .int .i64 n] w (Ans R w) := by
  have hmf : ∀ (fn : Fn) (first cap : Array Value) (w : World), (Instr.makeFunc fn first cap).run Tryz.prog w = .ok (.func fn first cap) w := fun _ _ _ _ => rfl
  have hB := fun w => Fr.Box.new F w
  obtain ⟨wa, wc, ws, lo, hi, ra, rc, rs⟩ := F
  dsimp only [Fr.v] at *
  have HH := Lib.hid H
  have HB := Lib.hid hB
  clear H hB
  go_enter Tryz.func13, Tryz.ntmps13
  go_wp2_with fail
  refine (HH.out _ w.heap.size (w.heap.size + 1) ?_ ?_ ?_).mono ?_
  · exact ((Keeps.refl _).alloc _).alloc _
  · exact (HB.out w).keep ((Keeps.refl _).alloc _)
  · simp [go_sem]
  rintro e w1 ⟨v, k, rfl, hR, k1⟩
  replace k1 := (((Keeps.refl _).alloc _).alloc _).trans k1
  have HR := Lib.hid hR
  clear hR
  go_wp2_with fail
  go_ret2
  exact ⟨v, k, rfl, HR.out, k1⟩

theorem enter_Parts1 (caps : Array Value) (w : World) : (callFunc 54 caps).run Tryz.prog w = .ok (.enter 54 caps) w := by kernel_rfl
set_option maxHeartbeats 400000 in
theorem Parts_by (F : Fr) (n : Int) (R : Value → Int → World → Prop) (w : World)
    (H : ∀ (w1 : World) (b0 b1 : Nat), Keeps w w1 → F.Box w1 b0 → w1.cell? ⟨b1, 0, none⟩ = some (.int .i64 n) → Calls Tryz.prog 44 #[.func (.func 54) #[] #[.pointer (some ⟨b0, 0, none⟩), .pointer (some ⟨b1, 0, none⟩)]] w1 (Ans R w1)) :
    Calls Tryz.prog 17 #[F.v, .int .i64 n] w (Ans R w) := by
  have hmf : ∀ (fn : Fn) (first cap : Array Value) (w : World), (Instr.makeFunc fn first cap).run Tryz.prog w = .ok (.func fn first cap) w := fun _ _ _ _ => rfl
  have hB := fun w => Fr.Box.new F w
  obtain ⟨wa, wc, ws, lo, hi, ra, rc, rs⟩ := F
  dsimp only [Fr.v] at *
  have HH := Lib.hid H
  have HB := Lib.hid hB
  clear H hB
  go_enter Tryz.func17, Tryz.ntmps17
  go_wp2_with fail
  refine (HH.out _ w.heap.size (w.heap.size + 1) ?_ ?_ ?_).mono ?_
  · exact ((Keeps.refl _).alloc _).alloc _
  · exact (HB.out w).keep ((Keeps.refl _).alloc _)
  · simp [go_sem]
  rintro e w1 ⟨v, k, rfl, hR, k1⟩
  replace k1 := (((Keeps.refl _).alloc _).alloc _).trans k1
  have HR := Lib.hid hR
  clear hR
  go_wp2_with fail
  go_ret2
  exact ⟨v, k, rfl, HR.out, k1⟩

theorem enter_Whole1 (caps : Array Value) (w : World) : (callFunc 51 caps).run Tryz.prog w = .ok (.enter 51 caps) w := by kernel_rfl
set_option maxHeartbeats 400000 in
theorem Whole_by (F : Fr) (n : Int) (R : Value → Int → World → Prop) (w : World)
    (H : ∀ (w1 : World) (b0 b1 : Nat), Keeps w w1 → F.Box w1 b0 → w1.cell? ⟨b1, 0, none⟩ = some (.int .i64 n) → Calls Tryz.prog 50 #[.func (.func 51) #[] #[.pointer (some ⟨b0, 0, none⟩), .pointer (some ⟨b1, 0, none⟩)]] w1 (Ans R w1)) :
    Calls Tryz.prog 15 #[F.v, .int .i64 n] w (Ans R w) := by
  have hmf : ∀ (fn : Fn) (first cap : Array Value) (w : World), (Instr.makeFunc fn first cap).run Tryz.prog w = .ok (.func fn first cap) w := fun _ _ _ _ => rfl
  have hB := fun w => Fr.Box.new F w
  obtain ⟨wa, wc, ws, lo, hi, ra, rc, rs⟩ := F
  dsimp only [Fr.v] at *
  have HH := Lib.hid H
  have HB := Lib.hid hB
  clear H hB
  go_enter Tryz.func15, Tryz.ntmps15
  go_wp2_with fail
  refine (HH.out _ w.heap.size (w.heap.size + 1) ?_ ?_ ?_).mono ?_
  · exact ((Keeps.refl _).alloc _).alloc _
  · exact (HB.out w).keep ((Keeps.refl _).alloc _)
  · simp [go_sem]
  rintro e w1 ⟨v, k, rfl, hR, k1⟩
  replace k1 := (((Keeps.refl _).alloc _).alloc _).trans k1
  have HR := Lib.hid hR
  clear hR
  go_wp2_with fail
  go_ret2
  exact ⟨v, k, rfl, HR.out, k1⟩

end Go.Proofs.YtoidnbpbeblokaaGreat
