/-
  WEAR: answer; the first number of which something is so.
  WEAR: numbers one after the other; the first of which something is so.
  WEAR: After, Lost, Below, Fits, Until, Day.
  WEAR: Day; After, Lost, Below, Fits, Until and Day as they are called.
-/
import Derived.Test.YtdehgplklgfcdaaGreatGf
import Derived.WalkKit
import Derived.OwnWalk
import Derived.RegionTactic
import Derived.ChangeAlike
import Derived.Deep.QuietTactic
import Derived.BigQuiet
import Derived.BigGuardPart
import Derived.WalkLawsBesides
import Derived.Defers
import Derived.Recover
namespace Go.Proofs.YtdehgplklgfcdaaGreat
open Go.RowKit Go.Proofs.Tryz

theorem run_errno (k : Int) (w : World) : (Instr.typeAssert (.iface 29 (.int .i64 k)) 20 29 true).run Tryz.prog w = .ok (.tuple #[.int .i64 k, .bool true]) w := by kernel_rfl
set_option maxHeartbeats 400000 in
theorem errorOf_any (k : Int) (w : World) : Calls Tryz.prog 93 #[.iface 29 (.int .i64 k)] w fun e w' => e = .returned (.int .i64 k) ∧ w = w' := by
  have h := run_errno k
  go_enter Tryz.func93, Tryz.ntmps93
  go_wp2
  go_ret
  exact ⟨rfl, rfl⟩

theorem catch_pan_int (p : Addr) (k : Int) (older : List PanicEntry) (w : World) (hc : w.cell? p = some (.int .i64 0)) (hz : w.frozen? p = false) :
    CallsD Tryz.prog 109 #[.pointer (some p)] (.panicking ({ v := .iface 29 (.int .i64 k), recovered := false } :: older)) w fun e u' w' =>
      e = .returned (.tuple #[]) ∧ u' = .panicking ({ v := .iface 29 (.int .i64 k), recovered := true } :: older) ∧ w' = w.setCell p (.int .i64 k) := by
  refine callsD_of_wpS Tryz.func109 rfl fun c₀ cs hu => ?_
  apply wpS_seq
  apply wpS_region
  simp [wpOpsS, go_sem, recoverD, hu, Tryz.ntmps109, Exit.thenS]
  refine wpS_of_wp ?_
  go_wp2_with (go_at_call 93; refine (errorOf_any k _).mono ?_; rintro e w' ⟨rfl, rfl⟩)
  simp [bodyPostS, results, Tryz.results109]
theorem catch_idle_int (p : Addr) (w : World) :
    CallsD Tryz.prog 109 #[.pointer (some p)] .returning w fun e u' w' => e = .returned (.tuple #[]) ∧ u' = .returning ∧ w = w' := by
  refine callsD_of_wpS Tryz.func109 rfl fun c₀ cs hu => ?_
  apply wpS_seq
  apply wpS_region
  simp [wpOpsS, go_sem, recoverD, hu, Tryz.ntmps109, Exit.thenS]
  refine wpS_of_wp ?_
  go_wp2_with fail
  cases c₀
  simp_all [bodyPostS, results, Tryz.results109]
set_option maxHeartbeats 400000 in
theorem answer_ok_int (K : Nat) (caps : Array Value) (w : World) (R : Value → World → Prop) (hcf : ∀ w, (callFunc K caps).run Tryz.prog w = .ok (.enter K caps) w)
    (hR : ∀ v wa u, R v wa → R v (wa.setCell ⟨w.heap.size, 0, none⟩ u))
    (h : Calls Tryz.prog K caps (w.alloc (.cells #[.int .i64 0] 29)) (fun e w' => ∃ v, e = .returned v ∧ R v w' ∧ Keeps (w.alloc (.cells #[.int .i64 0] 29)) w')) :
    Calls Tryz.prog 61 #[.func (.func K) #[] caps] w (fun e w' => ∃ v, e = .returned (.tuple #[v, .int .i64 0]) ∧ R v w' ∧ Keeps w w') := by
  have hmf : ∀ (fn : Fn) (first cap : Array Value) (w : World), (Instr.makeFunc fn first cap).run Tryz.prog w = .ok (.func fn first cap) w := fun _ _ _ _ => rfl
  have HR := Lib.hid hR
  clear hR
  go_enter_defers Tryz.func61, Tryz.ntmps61
  go_wp2_with fail
  refine h.mono ?_
  rintro e w1 ⟨v, rfl, hR1, hk⟩
  have hc1 := hk.cells
  have hz1 : w.heap.size < w1.heap.size := by have := hk.size; simp at this; omega
  go_wp2_with fail
  refine leaves_cons (f := 109) (args := #[.pointer (some ⟨w.heap.size, 0, none⟩)]) (by simp) (by simp [go_sem]) ?_
  refine (catch_idle_int ⟨w.heap.size, 0, none⟩ _).mono ?_
  rintro e u' w'' ⟨rfl, rfl, rfl⟩
  refine ⟨.tuple #[v, .int .i64 0], ?_, v, rfl, HR.out _ _ _ hR1, (((Keeps.refl _).alloc _).trans hk).setCell _ (Nat.le_refl _)⟩
  have hc2 : (w1.setCell ⟨w.heap.size, 0, none⟩ (.int .i64 0)).cell? ⟨w.heap.size, 0, none⟩ = some (.int .i64 0) := World.cell?_setCell_same' _ _ _ (by rw [hc1.1 _ _ (by simp)]; simp)
  simp [results, Tryz.results61, go_sem, hc2]
set_option maxHeartbeats 400000 in
theorem answer_pan_int (K : Nat) (caps : Array Value) (w : World) (k : Int) (hcf : ∀ w, (callFunc K caps).run Tryz.prog w = .ok (.enter K caps) w)
    (h : Calls Tryz.prog K caps (w.alloc (.cells #[.int .i64 0] 29)) (Pan k (w.alloc (.cells #[.int .i64 0] 29)))) :
    Calls Tryz.prog 61 #[.func (.func K) #[] caps] w (Ret (.tuple #[.int .i64 0, .int .i64 k]) w) := by
  have hmf : ∀ (fn : Fn) (first cap : Array Value) (w : World), (Instr.makeFunc fn first cap).run Tryz.prog w = .ok (.func fn first cap) w := fun _ _ _ _ => rfl
  go_enter_defers Tryz.func61, Tryz.ntmps61
  go_wp2_with fail
  refine h.mono ?_
  rintro e w1 ⟨rfl, hk⟩
  have hc1 := hk.cells
  have hz1 : w.heap.size < w1.heap.size := by have := hk.size; simp at this; omega
  refine leaves_cons (f := 109) (args := #[.pointer (some ⟨w.heap.size, 0, none⟩)]) (by simp) (by simp [go_sem]) ?_
  refine (catch_pan_int ⟨w.heap.size, 0, none⟩ k [] _ ?_ ?_).mono ?_
  · rw [hc1.1 _ _ (by simp)]; simp [go_sem]
  · rw [hc1.2 _ _ (by simp)]; simp [go_sem]
  rintro e u' w'' ⟨rfl, rfl, rfl⟩
  refine ⟨.tuple #[.int .i64 0, .int .i64 k], ?_, rfl, (((Keeps.refl _).alloc _).trans hk).setCell _ (Nat.le_refl _)⟩
  have hc2 : (w1.setCell ⟨w.heap.size, 0, none⟩ (.int .i64 k)).cell? ⟨w.heap.size, 0, none⟩ = some (.int .i64 k) := World.cell?_setCell_same' _ _ _ (by rw [hc1.1 _ _ (by simp)]; simp [go_sem])
  simp [results, Tryz.results61, go_sem, hc2]
theorem catch_pan_set (p : Addr) (k : Int) (older : List PanicEntry) (w : World) (hc : w.cell? p = some (.int .i64 0)) (hz : w.frozen? p = false) :
    CallsD Tryz.prog 117 #[.pointer (some p)] (.panicking ({ v := .iface 29 (.int .i64 k), recovered := false } :: older)) w fun e u' w' =>
      e = .returned (.tuple #[]) ∧ u' = .panicking ({ v := .iface 29 (.int .i64 k), recovered := true } :: older) ∧ w' = w.setCell p (.int .i64 k) := by
  refine callsD_of_wpS Tryz.func117 rfl fun c₀ cs hu => ?_
  apply wpS_seq
  apply wpS_region
  simp [wpOpsS, go_sem, recoverD, hu, Tryz.ntmps117, Exit.thenS]
  refine wpS_of_wp ?_
  go_wp2_with (go_at_call 93; refine (errorOf_any k _).mono ?_; rintro e w' ⟨rfl, rfl⟩)
  simp [bodyPostS, results, Tryz.results117]
theorem catch_idle_set (p : Addr) (w : World) :
    CallsD Tryz.prog 117 #[.pointer (some p)] .returning w fun e u' w' => e = .returned (.tuple #[]) ∧ u' = .returning ∧ w = w' := by
  refine callsD_of_wpS Tryz.func117 rfl fun c₀ cs hu => ?_
  apply wpS_seq
  apply wpS_region
  simp [wpOpsS, go_sem, recoverD, hu, Tryz.ntmps117, Exit.thenS]
  refine wpS_of_wp ?_
  go_wp2_with fail
  cases c₀
  simp_all [bodyPostS, results, Tryz.results117]
set_option maxHeartbeats 400000 in
theorem answer_ok_set (K : Nat) (caps : Array Value) (w : World) (R : Value → World → Prop) (hcf : ∀ w, (callFunc K caps).run Tryz.prog w = .ok (.enter K caps) w)
    (hR : ∀ v wa u, R v wa → R v (wa.setCell ⟨w.heap.size, 0, none⟩ u))
    (h : Calls Tryz.prog K caps (w.alloc (.cells #[.int .i64 0] 29)) (fun e w' => ∃ v, e = .returned v ∧ R v w' ∧ Keeps (w.alloc (.cells #[.int .i64 0] 29)) w')) :
    Calls Tryz.prog 82 #[.func (.func K) #[] caps] w (fun e w' => ∃ v, e = .returned (.tuple #[v, .int .i64 0]) ∧ R v w' ∧ Keeps w w') := by
  have hmf : ∀ (fn : Fn) (first cap : Array Value) (w : World), (Instr.makeFunc fn first cap).run Tryz.prog w = .ok (.func fn first cap) w := fun _ _ _ _ => rfl
  have HR := Lib.hid hR
  clear hR
  go_enter_defers Tryz.func82, Tryz.ntmps82
  go_wp2_with fail
  refine h.mono ?_
  rintro e w1 ⟨v, rfl, hR1, hk⟩
  have hc1 := hk.cells
  have hz1 : w.heap.size < w1.heap.size := by have := hk.size; simp at this; omega
  go_wp2_with fail
  refine leaves_cons (f := 117) (args := #[.pointer (some ⟨w.heap.size, 0, none⟩)]) (by simp) (by simp [go_sem]) ?_
  refine (catch_idle_set ⟨w.heap.size, 0, none⟩ _).mono ?_
  rintro e u' w'' ⟨rfl, rfl, rfl⟩
  refine ⟨.tuple #[v, .int .i64 0], ?_, v, rfl, HR.out _ _ _ hR1, (((Keeps.refl _).alloc _).trans hk).setCell _ (Nat.le_refl _)⟩
  have hc2 : (w1.setCell ⟨w.heap.size, 0, none⟩ (.int .i64 0)).cell? ⟨w.heap.size, 0, none⟩ = some (.int .i64 0) := World.cell?_setCell_same' _ _ _ (by rw [hc1.1 _ _ (by simp)]; simp)
  simp [results, Tryz.results82, go_sem, hc2]
set_option maxHeartbeats 400000 in
theorem answer_pan_set (K : Nat) (caps : Array Value) (w : World) (k : Int) (hcf : ∀ w, (callFunc K caps).run Tryz.prog w = .ok (.enter K caps) w)
    (h : Calls Tryz.prog K caps (w.alloc (.cells #[.int .i64 0] 29)) (Pan k (w.alloc (.cells #[.int .i64 0] 29)))) :
    Calls Tryz.prog 82 #[.func (.func K) #[] caps] w (Ret (.tuple #[.int .i64 0, .int .i64 k]) w) := by
  have hmf : ∀ (fn : Fn) (first cap : Array Value) (w : World), (Instr.makeFunc fn first cap).run Tryz.prog w = .ok (.func fn first cap) w := fun _ _ _ _ => rfl
  go_enter_defers Tryz.func82, Tryz.ntmps82
  go_wp2_with fail
  refine h.mono ?_
  rintro e w1 ⟨rfl, hk⟩
  have hc1 := hk.cells
  have hz1 : w.heap.size < w1.heap.size := by have := hk.size; simp at this; omega
  refine leaves_cons (f := 117) (args := #[.pointer (some ⟨w.heap.size, 0, none⟩)]) (by simp) (by simp [go_sem]) ?_
  refine (catch_pan_set ⟨w.heap.size, 0, none⟩ k [] _ ?_ ?_).mono ?_
  · rw [hc1.1 _ _ (by simp)]; simp [go_sem]
  · rw [hc1.2 _ _ (by simp)]; simp [go_sem]
  rintro e u' w'' ⟨rfl, rfl, rfl⟩
  refine ⟨.tuple #[.int .i64 0, .int .i64 k], ?_, rfl, (((Keeps.refl _).alloc _).trans hk).setCell _ (Nat.le_refl _)⟩
  have hc2 : (w1.setCell ⟨w.heap.size, 0, none⟩ (.int .i64 k)).cell? ⟨w.heap.size, 0, none⟩ = some (.int .i64 k) := World.cell?_setCell_same' _ _ _ (by rw [hc1.1 _ _ (by simp)]; simp [go_sem])
  simp [results, Tryz.results82, go_sem, hc2]
theorem catch_pan_span (p : Addr) (k : Int) (older : List PanicEntry) (w : World) (hc : w.cell? p = some (.int .i64 0)) (hz : w.frozen? p = false) :
    CallsD Tryz.prog 92 #[.pointer (some p)] (.panicking ({ v := .iface 29 (.int .i64 k), recovered := false } :: older)) w fun e u' w' =>
      e = .returned (.tuple #[]) ∧ u' = .panicking ({ v := .iface 29 (.int .i64 k), recovered := true } :: older) ∧ w' = w.setCell p (.int .i64 k) := by
  refine callsD_of_wpS Tryz.func92 rfl fun c₀ cs hu => ?_
  apply wpS_seq
  apply wpS_region
  simp [wpOpsS, go_sem, recoverD, hu, Tryz.ntmps92, Exit.thenS]
  refine wpS_of_wp ?_
  go_wp2_with (go_at_call 93; refine (errorOf_any k _).mono ?_; rintro e w' ⟨rfl, rfl⟩)
  simp [bodyPostS, results, Tryz.results92]
theorem catch_idle_span (p : Addr) (w : World) :
    CallsD Tryz.prog 92 #[.pointer (some p)] .returning w fun e u' w' => e = .returned (.tuple #[]) ∧ u' = .returning ∧ w = w' := by
  refine callsD_of_wpS Tryz.func92 rfl fun c₀ cs hu => ?_
  apply wpS_seq
  apply wpS_region
  simp [wpOpsS, go_sem, recoverD, hu, Tryz.ntmps92, Exit.thenS]
  refine wpS_of_wp ?_
  go_wp2_with fail
  cases c₀
  simp_all [bodyPostS, results, Tryz.results92]
set_option maxHeartbeats 400000 in
theorem answer_ok_span (K : Nat) (caps : Array Value) (w : World) (x y : Int) (hcf : ∀ w, (callFunc K caps).run Tryz.prog w = .ok (.enter K caps) w)
    (h : Calls Tryz.prog K caps ((w.alloc (.cells #[.int .i64 0, .int .i64 0] 23)).alloc (.cells #[.int .i64 0] 29)) (Ret (.agg #[.int .i64 x, .int .i64 y]) ((w.alloc (.cells #[.int .i64 0, .int .i64 0] 23)).alloc (.cells #[.int .i64 0] 29)))) :
    Calls Tryz.prog 41 #[.func (.func K) #[] caps] w (Ret (.tuple #[.agg #[.int .i64 x, .int .i64 y], .int .i64 0]) w) := by
  have hmf : ∀ (fn : Fn) (first cap : Array Value) (w : World), (Instr.makeFunc fn first cap).run Tryz.prog w = .ok (.func fn first cap) w := fun _ _ _ _ => rfl
  go_enter_defers Tryz.func41, Tryz.ntmps41
  go_wp2_with fail
  refine h.mono ?_
  rintro e w1 ⟨rfl, hk⟩
  have hc1 := hk.cells
  have hz1 : w.heap.size < w1.heap.size := by have := hk.size; simp at this; omega
  have hz2 : w.heap.size + 1 < w1.heap.size := by have := hk.size; simp at this; omega
  go_wp2_with fail
  refine leaves_cons (f := 92) (args := #[.pointer (some ⟨w.heap.size + 1, 0, none⟩)]) (by simp) (by simp [go_sem]) ?_
  refine (catch_idle_span ⟨w.heap.size + 1, 0, none⟩ _).mono ?_
  rintro e u' w'' ⟨rfl, rfl, rfl⟩
  refine ⟨.tuple #[.agg #[.int .i64 x, .int .i64 y], .int .i64 0], ?_, rfl, ((((((Keeps.refl _).alloc _).alloc _).trans hk).setCell _ (Nat.le_refl _)).setCell _ (Nat.le_refl _)).setCell _ (Nat.le_succ _)⟩
  have s0 : (w1.cell? ⟨w.heap.size, 0, none⟩).isSome = true := by rw [hc1.1 _ _ (by simp; omega)]; simp [go_sem]
  have s1 : (w1.cell? ⟨w.heap.size, 1, none⟩).isSome = true := by rw [hc1.1 _ _ (by simp; omega)]; simp [go_sem]
  have s2 : (w1.cell? ⟨w.heap.size + 1, 0, none⟩).isSome = true := by rw [hc1.1 _ _ (by simp)]; simp [go_sem]
  have q0 : (((w1.setCell ⟨w.heap.size, 0, none⟩ (.int .i64 x)).setCell ⟨w.heap.size, 1, none⟩ (.int .i64 y)).setCell ⟨w.heap.size + 1, 0, none⟩ (.int .i64 0)).cell? ⟨w.heap.size, 0, none⟩ = some (.int .i64 x) := by
    exact (cell_set_other (by omega)).trans ((cell_set_other (by omega)).trans (cell_set_same s0))
  have q1 : (((w1.setCell ⟨w.heap.size, 0, none⟩ (.int .i64 x)).setCell ⟨w.heap.size, 1, none⟩ (.int .i64 y)).setCell ⟨w.heap.size + 1, 0, none⟩ (.int .i64 0)).cell? ⟨w.heap.size, 1, none⟩ = some (.int .i64 y) := by
    exact (cell_set_other (by omega)).trans (cell_set_same (by rw [cell_set_other (by omega)]; exact s1))
  have q2 : (((w1.setCell ⟨w.heap.size, 0, none⟩ (.int .i64 x)).setCell ⟨w.heap.size, 1, none⟩ (.int .i64 y)).setCell ⟨w.heap.size + 1, 0, none⟩ (.int .i64 0)).cell? ⟨w.heap.size + 1, 0, none⟩ = some (.int .i64 0) := by
    exact cell_set_same (by rw [cell_set_other (by omega), cell_set_other (by omega)]; exact s2)
  simp [results, Tryz.results41, go_sem, q0, q1, q2]
set_option maxHeartbeats 400000 in
theorem answer_pan_span (K : Nat) (caps : Array Value) (w : World) (k : Int) (hcf : ∀ w, (callFunc K caps).run Tryz.prog w = .ok (.enter K caps) w)
    (h : Calls Tryz.prog K caps ((w.alloc (.cells #[.int .i64 0, .int .i64 0] 23)).alloc (.cells #[.int .i64 0] 29)) (Pan k ((w.alloc (.cells #[.int .i64 0, .int .i64 0] 23)).alloc (.cells #[.int .i64 0] 29)))) :
    Calls Tryz.prog 41 #[.func (.func K) #[] caps] w (Ret (.tuple #[.agg #[.int .i64 0, .int .i64 0], .int .i64 k]) w) := by
  have hmf : ∀ (fn : Fn) (first cap : Array Value) (w : World), (Instr.makeFunc fn first cap).run Tryz.prog w = .ok (.func fn first cap) w := fun _ _ _ _ => rfl
  go_enter_defers Tryz.func41, Tryz.ntmps41
  go_wp2_with fail
  refine h.mono ?_
  rintro e w1 ⟨rfl, hk⟩
  have hc1 := hk.cells
  have hz1 : w.heap.size < w1.heap.size := by have := hk.size; simp at this; omega
  refine leaves_cons (f := 92) (args := #[.pointer (some ⟨w.heap.size + 1, 0, none⟩)]) (by simp) (by simp [go_sem]) ?_
  refine (catch_pan_span ⟨w.heap.size + 1, 0, none⟩ k [] _ ?_ ?_).mono ?_
  · rw [hc1.1 _ _ (by simp)]; simp [go_sem]
  · rw [hc1.2 _ _ (by simp)]; simp [go_sem]
  rintro e u' w'' ⟨rfl, rfl, rfl⟩
  refine ⟨.tuple #[.agg #[.int .i64 0, .int .i64 0], .int .i64 k], ?_, rfl, ((((Keeps.refl _).alloc _).alloc _).trans hk).setCell _ (Nat.le_succ _)⟩
  have hc2 : (w1.setCell ⟨w.heap.size + 1, 0, none⟩ (.int .i64 k)).cell? ⟨w.heap.size + 1, 0, none⟩ = some (.int .i64 k) := World.cell?_setCell_same' _ _ _ (by rw [hc1.1 _ _ (by simp)]; simp [go_sem])
  have q0 : (w1.setCell ⟨w.heap.size + 1, 0, none⟩ (.int .i64 k)).cell? ⟨w.heap.size, 0, none⟩ = some (.int .i64 0) := by
    rw [cell_set_other (by omega), hc1.1 _ _ (by simp; omega)]; simp [go_sem]
  have q1 : (w1.setCell ⟨w.heap.size + 1, 0, none⟩ (.int .i64 k)).cell? ⟨w.heap.size, 1, none⟩ = some (.int .i64 0) := by
    rw [cell_set_other (by omega), hc1.1 _ _ (by simp; omega)]; simp [go_sem]
  simp [results, Tryz.results41, go_sem, hc2, q0, q1]
theorem catch_pan_short (p : Addr) (k : Int) (older : List PanicEntry) (w : World) (hc : w.cell? p = some (.int .i64 0)) (hz : w.frozen? p = false) :
    CallsD Tryz.prog 107 #[.pointer (some p)] (.panicking ({ v := .iface 29 (.int .i64 k), recovered := false } :: older)) w fun e u' w' =>
      e = .returned (.tuple #[]) ∧ u' = .panicking ({ v := .iface 29 (.int .i64 k), recovered := true } :: older) ∧ w' = w.setCell p (.int .i64 k) := by
  refine callsD_of_wpS Tryz.func107 rfl fun c₀ cs hu => ?_
  apply wpS_seq
  apply wpS_region
  simp [wpOpsS, go_sem, recoverD, hu, Tryz.ntmps107, Exit.thenS]
  refine wpS_of_wp ?_
  go_wp2_with (go_at_call 93; refine (errorOf_any k _).mono ?_; rintro e w' ⟨rfl, rfl⟩)
  simp [bodyPostS, results, Tryz.results107]
theorem catch_idle_short (p : Addr) (w : World) :
    CallsD Tryz.prog 107 #[.pointer (some p)] .returning w fun e u' w' => e = .returned (.tuple #[]) ∧ u' = .returning ∧ w = w' := by
  refine callsD_of_wpS Tryz.func107 rfl fun c₀ cs hu => ?_
  apply wpS_seq
  apply wpS_region
  simp [wpOpsS, go_sem, recoverD, hu, Tryz.ntmps107, Exit.thenS]
  refine wpS_of_wp ?_
  go_wp2_with fail
  cases c₀
  simp_all [bodyPostS, results, Tryz.results107]
set_option maxHeartbeats 400000 in
theorem answer_ok_short (K : Nat) (caps : Array Value) (w : World) (x y : Int) (hcf : ∀ w, (callFunc K caps).run Tryz.prog w = .ok (.enter K caps) w)
    (h : Calls Tryz.prog K caps ((w.alloc (.cells #[.int .i64 0, .int .i64 0] 88)).alloc (.cells #[.int .i64 0] 29)) (Ret (.agg #[.int .i64 x, .int .i64 y]) ((w.alloc (.cells #[.int .i64 0, .int .i64 0] 88)).alloc (.cells #[.int .i64 0] 29)))) :
    Calls Tryz.prog 53 #[.func (.func K) #[] caps] w (Ret (.tuple #[.agg #[.int .i64 x, .int .i64 y], .int .i64 0]) w) := by
  have hmf : ∀ (fn : Fn) (first cap : Array Value) (w : World), (Instr.makeFunc fn first cap).run Tryz.prog w = .ok (.func fn first cap) w := fun _ _ _ _ => rfl
  go_enter_defers Tryz.func53, Tryz.ntmps53
  go_wp2_with fail
  refine h.mono ?_
  rintro e w1 ⟨rfl, hk⟩
  have hc1 := hk.cells
  have hz1 : w.heap.size < w1.heap.size := by have := hk.size; simp at this; omega
  have hz2 : w.heap.size + 1 < w1.heap.size := by have := hk.size; simp at this; omega
  go_wp2_with fail
  refine leaves_cons (f := 107) (args := #[.pointer (some ⟨w.heap.size + 1, 0, none⟩)]) (by simp) (by simp [go_sem]) ?_
  refine (catch_idle_short ⟨w.heap.size + 1, 0, none⟩ _).mono ?_
  rintro e u' w'' ⟨rfl, rfl, rfl⟩
  refine ⟨.tuple #[.agg #[.int .i64 x, .int .i64 y], .int .i64 0], ?_, rfl, ((((((Keeps.refl _).alloc _).alloc _).trans hk).setCell _ (Nat.le_refl _)).setCell _ (Nat.le_refl _)).setCell _ (Nat.le_succ _)⟩
  have s0 : (w1.cell? ⟨w.heap.size, 0, none⟩).isSome = true := by rw [hc1.1 _ _ (by simp; omega)]; simp [go_sem]
  have s1 : (w1.cell? ⟨w.heap.size, 1, none⟩).isSome = true := by rw [hc1.1 _ _ (by simp; omega)]; simp [go_sem]
  have s2 : (w1.cell? ⟨w.heap.size + 1, 0, none⟩).isSome = true := by rw [hc1.1 _ _ (by simp)]; simp [go_sem]
  have q0 : (((w1.setCell ⟨w.heap.size, 0, none⟩ (.int .i64 x)).setCell ⟨w.heap.size, 1, none⟩ (.int .i64 y)).setCell ⟨w.heap.size + 1, 0, none⟩ (.int .i64 0)).cell? ⟨w.heap.size, 0, none⟩ = some (.int .i64 x) := by
    exact (cell_set_other (by omega)).trans ((cell_set_other (by omega)).trans (cell_set_same s0))
  have q1 : (((w1.setCell ⟨w.heap.size, 0, none⟩ (.int .i64 x)).setCell ⟨w.heap.size, 1, none⟩ (.int .i64 y)).setCell ⟨w.heap.size + 1, 0, none⟩ (.int .i64 0)).cell? ⟨w.heap.size, 1, none⟩ = some (.int .i64 y) := by
    exact (cell_set_other (by omega)).trans (cell_set_same (by rw [cell_set_other (by omega)]; exact s1))
  have q2 : (((w1.setCell ⟨w.heap.size, 0, none⟩ (.int .i64 x)).setCell ⟨w.heap.size, 1, none⟩ (.int .i64 y)).setCell ⟨w.heap.size + 1, 0, none⟩ (.int .i64 0)).cell? ⟨w.heap.size + 1, 0, none⟩ = some (.int .i64 0) := by
    exact cell_set_same (by rw [cell_set_other (by omega), cell_set_other (by omega)]; exact s2)
  simp [results, Tryz.results53, go_sem, q0, q1, q2]
set_option maxHeartbeats 400000 in
theorem answer_pan_short (K : Nat) (caps : Array Value) (w : World) (k : Int) (hcf : ∀ w, (callFunc K caps).run Tryz.prog w = .ok (.enter K caps) w)
    (h : Calls Tryz.prog K caps ((w.alloc (.cells #[.int .i64 0, .int .i64 0] 88)).alloc (.cells #[.int .i64 0] 29)) (Pan k ((w.alloc (.cells #[.int .i64 0, .int .i64 0] 88)).alloc (.cells #[.int .i64 0] 29)))) :
    Calls Tryz.prog 53 #[.func (.func K) #[] caps] w (Ret (.tuple #[.agg #[.int .i64 0, .int .i64 0], .int .i64 k]) w) := by
  have hmf : ∀ (fn : Fn) (first cap : Array Value) (w : World), (Instr.makeFunc fn first cap).run Tryz.prog w = .ok (.func fn first cap) w := fun _ _ _ _ => rfl
  go_enter_defers Tryz.func53, Tryz.ntmps53
  go_wp2_with fail
  refine h.mono ?_
  rintro e w1 ⟨rfl, hk⟩
  have hc1 := hk.cells
  have hz1 : w.heap.size < w1.heap.size := by have := hk.size; simp at this; omega
  refine leaves_cons (f := 107) (args := #[.pointer (some ⟨w.heap.size + 1, 0, none⟩)]) (by simp) (by simp [go_sem]) ?_
  refine (catch_pan_short ⟨w.heap.size + 1, 0, none⟩ k [] _ ?_ ?_).mono ?_
  · rw [hc1.1 _ _ (by simp)]; simp [go_sem]
  · rw [hc1.2 _ _ (by simp)]; simp [go_sem]
  rintro e u' w'' ⟨rfl, rfl, rfl⟩
  refine ⟨.tuple #[.agg #[.int .i64 0, .int .i64 0], .int .i64 k], ?_, rfl, ((((Keeps.refl _).alloc _).alloc _).trans hk).setCell _ (Nat.le_succ _)⟩
  have hc2 : (w1.setCell ⟨w.heap.size + 1, 0, none⟩ (.int .i64 k)).cell? ⟨w.heap.size + 1, 0, none⟩ = some (.int .i64 k) := World.cell?_setCell_same' _ _ _ (by rw [hc1.1 _ _ (by simp)]; simp [go_sem])
  have q0 : (w1.setCell ⟨w.heap.size + 1, 0, none⟩ (.int .i64 k)).cell? ⟨w.heap.size, 0, none⟩ = some (.int .i64 0) := by
    rw [cell_set_other (by omega), hc1.1 _ _ (by simp; omega)]; simp [go_sem]
  have q1 : (w1.setCell ⟨w.heap.size + 1, 0, none⟩ (.int .i64 k)).cell? ⟨w.heap.size, 1, none⟩ = some (.int .i64 0) := by
    rw [cell_set_other (by omega), hc1.1 _ _ (by simp; omega)]; simp [go_sem]
  simp [results, Tryz.results53, go_sem, hc2, q0, q1]

def W2 (r : Sum Int Sp) (w : World) (e : Ending) (w' : World) : Prop := match r with
  | .inl k => Pan k w e w'
  | .inr x => Ret (.agg #[.int .i64 x.1, .int .i64 x.2]) w e w'
def W1 (r : Sum Int Int) (w : World) (e : Ending) (w' : World) : Prop := match r with
  | .inl k => Pan k w e w'
  | .inr x => RetI x w e w'
def spA (r : Sum Int Sp) : Sp := match r with
  | .inl _ => (0, 0)
  | .inr x => x
def inA (r : Sum Int Int) : Int := match r with
  | .inl _ => 0
  | .inr x => x
def frN (pr : Nat → Bool) (n : Nat) : Option Nat := firstL pr (List.range n)
def fnV (num : Nat → Int) (o : Option Nat) : Int := match o with
  | some i => num i
  | none => 0
theorem frN_none {pr : Nat → Bool} {n : Nat} (h : ∀ i, i < n → pr i = false) : frN pr n = none := firstL_none.2 fun i hi => h i (List.mem_range.1 hi)
theorem frN_some {pr : Nat → Bool} {n y : Nat} (hy : y < n) (hp : pr y = true) (h : ∀ i, i < y → pr i = false) : frN pr n = some y := by
  unfold frN
  obtain ⟨d, rfl⟩ := Nat.exists_eq_add_of_le (show y + 1 ≤ n from hy)
  rw [show List.range (y + 1 + d) = List.range (y + 1) ++ (List.range d).map (y + 1 + ·) from List.range_add, List.range_succ, List.append_assoc, firstL_append _ _ _ fun i hi => h i (List.mem_range.1 hi)]
  show (bif pr y then some y else _) = _
  rw [hp]
  rfl
theorem frN_is {pr : Nat → Bool} {n : Nat} : (frN pr n = none ∧ ∀ i, i < n → pr i = false) ∨ ∃ y, frN pr n = some y ∧ y < n ∧ pr y = true ∧ ∀ i, i < y → pr i = false := by
  by_cases h : ∃ i, i < n ∧ pr i = true
  · right
    obtain ⟨i, hi, hp⟩ := h
    have key : ∀ i, i < n → pr i = true → ∃ y, y ≤ i ∧ pr y = true ∧ ∀ j, j < y → pr j = false := by
      intro i
      induction i using Nat.strongRecOn with
      | _ i ih =>
        intro hi hp
        by_cases h2 : ∃ j, j < i ∧ pr j = true
        · obtain ⟨j, hj, hpj⟩ := h2
          obtain ⟨y, h3, h4⟩ := ih j hj (by omega) hpj
          exact ⟨y, by omega, h4⟩
        · exact ⟨i, Nat.le_refl _, hp, fun j hj => by
            cases hb : pr j with
            | false => rfl
            | true => exact absurd ⟨j, hj, hb⟩ h2⟩
    obtain ⟨y, h1, h2, h3⟩ := key i hi hp
    exact ⟨y, frN_some (by omega) h2 h3, by omega, h2, h3⟩
  · left
    have h2 : ∀ i, i < n → pr i = false := fun i hi => by
      cases hb : pr i with
      | false => rfl
      | true => exact absurd ⟨i, hi, hb⟩ h
    exact ⟨frN_none h2, h2⟩
def dnG (N i : Nat) : List Value := [.int .i64 ((N - i : Nat) : Int)]
def upG (i : Nat) : List Value := [.int .i64 (i : Int)]
def dnN (N i : Nat) : Int := ((N - i : Nat) : Int)
def upN (i : Nat) : Int := (i : Int)
/-- What is found, or a panic. -/
def Fnd (b : Bool) (z : Int) (w : World) (e : Ending) (w' : World) : Prop := bif b then RetI z w e w' else Pan 4 w e w'
theorem ans_span (K : Nat) (caps : Array Value) (w : World) (r : Sum Int Sp) (hcf : ∀ w, (callFunc K caps).run Tryz.prog w = .ok (.enter K caps) w) (h : ∀ w1, Keeps w w1 → Calls Tryz.prog K caps w1 (W2 r w1)) : Calls Tryz.prog 41 #[.func (.func K) #[] caps] w (Ret (.tuple #[.agg #[.int .i64 (spA r).1, .int .i64 (spA r).2], .int .i64 (erA r)]) w) := by
  have h1 := h _ (((Keeps.refl w).alloc (.cells #[.int .i64 0, .int .i64 0] 23)).alloc (.cells #[.int .i64 0] 29))
  cases r with
  | inl k => exact answer_pan_span K caps w k hcf h1
  | inr x => exact answer_ok_span K caps w x.1 x.2 hcf h1
theorem ans_short (K : Nat) (caps : Array Value) (w : World) (r : Sum Int Sp) (hcf : ∀ w, (callFunc K caps).run Tryz.prog w = .ok (.enter K caps) w) (h : ∀ w1, Keeps w w1 → Calls Tryz.prog K caps w1 (W2 r w1)) : Calls Tryz.prog 53 #[.func (.func K) #[] caps] w (Ret (.tuple #[.agg #[.int .i64 (spA r).1, .int .i64 (spA r).2], .int .i64 (erA r)]) w) := by
  have h1 := h _ (((Keeps.refl w).alloc (.cells #[.int .i64 0, .int .i64 0] 88)).alloc (.cells #[.int .i64 0] 29))
  cases r with
  | inl k => exact answer_pan_short K caps w k hcf h1
  | inr x => exact answer_ok_short K caps w x.1 x.2 hcf h1
theorem ans_int (K : Nat) (caps : Array Value) (w : World) (r : Sum Int Int) (hcf : ∀ w, (callFunc K caps).run Tryz.prog w = .ok (.enter K caps) w) (h : ∀ w1, Keeps w w1 → Calls Tryz.prog K caps w1 (W1 r w1)) : Calls Tryz.prog 61 #[.func (.func K) #[] caps] w (Ret (.tuple #[.int .i64 (inA r), .int .i64 (erA r)]) w) := by
  have h1 := h _ ((Keeps.refl w).alloc (.cells #[.int .i64 0] 29))
  cases r with
  | inl k => exact answer_pan_int K caps w k hcf h1
  | inr x => exact (answer_ok_int K caps w (fun v _ => v = .int .i64 x) hcf (fun _ _ _ h => h) (h1.mono fun e w' ⟨he, hk⟩ => ⟨_, he, rfl, hk⟩)).mono fun e w' ⟨v, he, hv, hk⟩ => ⟨by rw [he, hv]; rfl, hk⟩
theorem ans_set (K : Nat) (caps : Array Value) (w : World) (r : Sum Int Int) (hcf : ∀ w, (callFunc K caps).run Tryz.prog w = .ok (.enter K caps) w) (h : ∀ w1, Keeps w w1 → Calls Tryz.prog K caps w1 (W1 r w1)) : Calls Tryz.prog 82 #[.func (.func K) #[] caps] w (Ret (.tuple #[.int .i64 (inA r), .int .i64 (erA r)]) w) := by
  have h1 := h _ ((Keeps.refl w).alloc (.cells #[.int .i64 0] 29))
  cases r with
  | inl k => exact answer_pan_set K caps w k hcf h1
  | inr x => exact (answer_ok_set K caps w (fun v _ => v = .int .i64 x) hcf (fun _ _ _ h => h) (h1.mono fun e w' ⟨he, hk⟩ => ⟨_, he, rfl, hk⟩)).mono fun e w' ⟨v, he, hv, hk⟩ => ⟨by rw [he, hv]; rfl, hk⟩
end Go.Proofs.YtdehgplklgfcdaaGreat

namespace Go.Proofs.YtdehgplklgfcdaaGreat
open Go.RowKit Go.Proofs.Tryz

set_option maxRecDepth 100000 in
theorem downFrom_any (N : Int) (w : World)  : Calls Tryz.prog 72 #[.int .i64 N] w (Nw (α := Unit) (fun _ b => .func (.func 112) #[] #[.pointer (some ⟨b, 0, none⟩)]) (fun _ => .cells #[.int .i64 N] 3 (0, 0)) (fun _ => True) w) := by
  refine calls_run (fn := f72) (c := (f72.body).getD .skip) [.int .i64 N] func72 (by kernel_rfl) (fun _ => False) [] (fun _ h => by cases h) (List.Pairwise.nil) 4 (by kernel_rfl) (by simp) ?_
  refine run_auto [] 2 [] [] [0] [] (st' := ⟨[(0, iV N)], []⟩) (acc := []) (by kernel_rfl) (by kernel_rfl) trivial ?_
  refine run_new (aO #[iV N] 3) (fun b1 => pA b1) (some 1) (fun _ => by kernel_rfl) (fun b1 hb1 => ?_)
  refine run_auto [] 7 [] [] [2] [0] (st' := ⟨[(2, .func (.func 112) #[] #[pA b1])], [(b1, aO #[iV N] 3)]⟩) (acc := []) (by kernel_rfl) (by kernel_rfl) trivial ?_
  refine run_end (fn := f72) rfl (Nat.le_refl _) (by kernel_rfl) [] [.func (.func 112) #[] #[pA b1]] (e := []) (by kernel_rfl) trivial (fun w1 k1 h1 => ?_)
  exact ⟨(), b1, trivial, hb1, rfl, k1.keeps (fun _ h => h), h1 (b1, _) (List.mem_of_getElem? (i := 0) rfl)⟩

set_option maxRecDepth 100000 in
theorem upTo_any (N : Int) (w : World)  : Calls Tryz.prog 78 #[.int .i64 N] w (Nw (α := Unit) (fun _ b => .func (.func 116) #[] #[.pointer (some ⟨b, 0, none⟩)]) (fun _ => .cells #[.int .i64 N] 3 (0, 0)) (fun _ => True) w) := by
  refine calls_run (fn := f78) (c := (f78.body).getD .skip) [.int .i64 N] func78 (by kernel_rfl) (fun _ => False) [] (fun _ h => by cases h) (List.Pairwise.nil) 4 (by kernel_rfl) (by simp) ?_
  refine run_auto [] 2 [] [] [0] [] (st' := ⟨[(0, iV N)], []⟩) (acc := []) (by kernel_rfl) (by kernel_rfl) trivial ?_
  refine run_new (aO #[iV N] 3) (fun b1 => pA b1) (some 1) (fun _ => by kernel_rfl) (fun b1 hb1 => ?_)
  refine run_auto [] 7 [] [] [2] [0] (st' := ⟨[(2, .func (.func 116) #[] #[pA b1])], [(b1, aO #[iV N] 3)]⟩) (acc := []) (by kernel_rfl) (by kernel_rfl) trivial ?_
  refine run_end (fn := f78) rfl (Nat.le_refl _) (by kernel_rfl) [] [.func (.func 116) #[] #[pA b1]] (e := []) (by kernel_rfl) trivial (fun w1 k1 h1 => ?_)
  exact ⟨(), b1, trivial, hb1, rfl, k1.keeps (fun _ h => h), h1 (b1, _) (List.mem_of_getElem? (i := 0) rfl)⟩

set_option maxRecDepth 100000 in
theorem downFrom_give (N b : Nat) (hN : N ≤ 100000) : Gives Tryz.prog 112 #[.pointer (some ⟨b, 0, none⟩)] [] (OwnD [(b, .cells #[.int .i64 (N : Int)] 3 (0, 0))]) (fun l => l <+: rgL (N + 1) (dnG N)) (fun l => l = rgL (N + 1) (dnG N)) := by
  intro l J Jx E0 w hE0 hst hJw hown hdis hin hy
  have hb := (hin _ (List.mem_singleton.2 rfl)).1
  have hnd := (hin _ (List.mem_singleton.2 rfl)).2
  refine calls_runE (fn := f112) (c := (f112.body).getD .skip) [.func (.yield l) #[] #[], .pointer (some ⟨b, 0, none⟩)] func112 (by kernel_rfl) E0 hE0 hJw 13 (by kernel_rfl) (by simp) ?_
  refine run_auto [] 2 [] [] [0, 1] [] (st' := ⟨[(0, .func (.yield l) #[] #[]), (1, pA b)], []⟩) (acc := []) (by kernel_rfl) (by kernel_rfl) trivial ?_
  refine run_v (Instr.loadAt 3 (pA b) >>= fun v => pure (Next.value v)) (some 4) (iV (N : Int)) (by kernel_rfl) (fun w1 k1 h1 => load_in (base := 0) (off := 0) k1 hnd [iV (N : Int)] (fun i u hi => by rw [Nat.zero_add]; exact cells_of_heap hb i u hi) (by kernel_rfl)) ?_
  refine run_auto [] 3 [] [] [0, 3] [] (st' := ⟨[(0, .func (.yield l) #[] #[]), (3, iV (N : Int))], []⟩) (acc := []) (by kernel_rfl) (by kernel_rfl) trivial ?_
  refine run_auto [] 0 [] [] [0, 3] [] (st' := ⟨[(0, .func (.yield l) #[] #[]), (3, iV (N : Int))], []⟩) (acc := []) (by kernel_rfl) (by kernel_rfl) trivial ?_
  refine run_loopE (σ := Nat × Ext) (S := fun (x : Nat × Ext) => ⟨[(0, .func (.yield l) #[] #[]), (3, iV ((N : Int) - (x.1 : Int)))], []⟩) (fun (x : Nat × Ext) => x.2) (fun (x : Nat × Ext) => x.1 ≤ (N + 1) ∧ J (rgL x.1 (dnG N)) x.2 ∧ x.2.n0 = E0.n0 ∧ (∀ b, b < w.heap.size → x.2.D b → E0.D b)) (fun (x : Nat × Ext) => (N + 1) - x.1) ((0, E0)) (by kernel_rfl) (⟨Nat.zero_le _, hst, rfl, (fun _ _ h => h)⟩) (by simp) rfl (fun x hI0 J0 hJ0 => ?_)
  obtain ⟨i, Ea⟩ := x
  obtain ⟨hl0, hJa, hna, hsa⟩ := hI0
  dsimp only at hl0 hJa hna hsa hJ0
  cases hd1 : (decide (0 ≤ ((N : Int) - (i : Int)))) with
  | false =>
    have hp1 := of_decide_eq_false hd1
    refine run_auto [(6, .bool false)] 8 [false] [] [] [] (st' := ⟨[], []⟩) (acc := [(.bool false, .bool false), (.bool (decide (0 ≤ ((N : Int) - (i : Int)))), .bool false)]) (by kernel_rfl) (by kernel_rfl) ⟨rfl, (bo hd1), trivial⟩ ?_
    refine run_endE (fn := f112) rfl (Nat.le_refl _) (by kernel_rfl) [] [] (e := []) (by kernel_rfl) trivial (fun w1 k1 h1 hE1 => ?_)
    exact ⟨rfl, Ea, hna, hE1, .inl ⟨_, rfl, by have h := hJa; rw [show i = (N + 1) by omega] at h; exact h⟩⟩
  | true =>
    have hp1 := of_decide_eq_true hd1
    obtain ⟨m, hm⟩ : ∃ m : Nat, N = m + i := ⟨N - i, by omega⟩
    rw [show (N : Int) - (i : Int) = (m : Int) from by omega]
    have hrev : dnG N i = [iV (m : Int)] := by unfold dnG; rw [show N - i = m from by omega]
    have hm0 : decide (0 ≤ (m : Int)) = true := decide_eq_true (by omega)
    refine run_auto [(6, .bool true)] 14 [true] [] [0, 3, 9, 10] [] (st' := ⟨[(0, .func (.yield l) #[] #[]), (3, iV (m : Int)), (9, .func (.yield l) #[] #[]), (10, iV (m : Int))], []⟩) (acc := [(.bool true, .bool true), (.bool (decide (0 ≤ (m : Int))), .bool true)]) (by kernel_rfl) (by kernel_rfl) ⟨rfl, (bo hm0), trivial⟩ ?_
    have hpre := rgL_pre (dnG N) (i := i) (n := (N + 1)) (by omega)
    rw [hrev] at hpre
    refine run_yield l #[iV (m : Int)] (some 11) (by kernel_rfl) hsa (Yt (J (rgL i (dnG N) ++ [[iV (m : Int)]])) Jx) (fun w1 hJ1 k1 => Ygives.out (Ygives.of (E := Ea) (hy _ [iV (m : Int)] Ea w1 hpre hJa hna hJ1) hna)) (fun E3 t hok hn3 hs3 => ?_)
    have hs4 : ∀ b, b < w.heap.size → E3.D b → E0.D b := fun b hb h => (hs3 b h).elim (hsa b hb) (fun h => absurd hb (Nat.not_lt.2 h))
    cases hd2 : t with
    | false =>
      rw [hd2] at hok
      dsimp only [Yt] at hok
      refine run_auto [(12, .bool true)] 3 [true] [] [0, 3] [] (st' := ⟨[(0, .func (.yield l) #[] #[]), (3, iV (m : Int))], []⟩) (acc := [(.bool true, .bool true), (.bool true, .bool true)]) (by kernel_rfl) (by kernel_rfl) ⟨rfl, rfl, trivial⟩ ?_
      refine run_endE (fn := f112) rfl (Nat.le_refl _) (by kernel_rfl) [] [] (e := []) (by kernel_rfl) trivial (fun w1 k1 h1 hE1 => ?_)
      exact ⟨rfl, E3, (hn3.trans hna), hE1, .inr hok⟩
    | true =>
      rw [hd2] at hok
      dsimp only [Yt] at hok
      refine run_auto [(12, .bool false), (8, iV ((m : Int) - 1))] 10 [false] [] [0, 3] [] (st' := ⟨[(0, .func (.yield l) #[] #[]), (3, iV ((m : Int) - 1))], []⟩) (acc := [(iV (IntKind.i64.wrap ((m : Int) - 1)), iV ((m : Int) - 1)), (.bool false, .bool false), (.bool false, .bool false)]) (by kernel_rfl) (by kernel_rfl) ⟨(wr (by omega) (by omega)), rfl, rfl, trivial⟩ ?_
      rw [show (m : Int) - 1 = (N : Int) - ((i + 1 : Nat) : Int) from by omega]
      exact run_round (by kernel_rfl) (hJ0 ((i + 1, E3)) (⟨by dsimp only; omega, by have h := hok; rw [← hrev] at h; rw [rgL_next]; exact h, (hn3.trans hna), hs4⟩) (by dsimp only; omega))
set_option maxRecDepth 100000 in
theorem upTo_give (N b : Nat) (hN : N ≤ 100000) : Gives Tryz.prog 116 #[.pointer (some ⟨b, 0, none⟩)] [] (OwnD [(b, .cells #[.int .i64 (N : Int)] 3 (0, 0))]) (fun l => l <+: rgL N (upG)) (fun l => l = rgL N (upG)) := by
  intro l J Jx E0 w hE0 hst hJw hown hdis hin hy
  have hb := (hin _ (List.mem_singleton.2 rfl)).1
  have hnd := (hin _ (List.mem_singleton.2 rfl)).2
  refine calls_runE (fn := f116) (c := (f116.body).getD .skip) [.func (.yield l) #[] #[], .pointer (some ⟨b, 0, none⟩)] func116 (by kernel_rfl) E0 hE0 hJw 13 (by kernel_rfl) (by simp) ?_
  refine run_auto [] 2 [] [] [0, 1] [] (st' := ⟨[(0, .func (.yield l) #[] #[]), (1, pA b)], []⟩) (acc := []) (by kernel_rfl) (by kernel_rfl) trivial ?_
  refine run_v (Instr.loadAt 3 (pA b) >>= fun v => pure (Next.value v)) (some 4) (iV (N : Int)) (by kernel_rfl) (fun w1 k1 h1 => load_in (base := 0) (off := 0) k1 hnd [iV (N : Int)] (fun i u hi => by rw [Nat.zero_add]; exact cells_of_heap hb i u hi) (by kernel_rfl)) ?_
  refine run_auto [] 3 [] [] [0, 4, 5] [] (st' := ⟨[(0, .func (.yield l) #[] #[]), (4, iV (N : Int)), (5, iV 0)], []⟩) (acc := []) (by kernel_rfl) (by kernel_rfl) trivial ?_
  refine run_auto [] 0 [] [] [0, 4, 5] [] (st' := ⟨[(0, .func (.yield l) #[] #[]), (4, iV (N : Int)), (5, iV 0)], []⟩) (acc := []) (by kernel_rfl) (by kernel_rfl) trivial ?_
  refine run_loopE (σ := Nat × Ext) (S := fun (x : Nat × Ext) => ⟨[(0, .func (.yield l) #[] #[]), (4, iV (N : Int)), (5, iV (x.1 : Int))], []⟩) (fun (x : Nat × Ext) => x.2) (fun (x : Nat × Ext) => x.1 ≤ N ∧ J (rgL x.1 (upG)) x.2 ∧ x.2.n0 = E0.n0 ∧ (∀ b, b < w.heap.size → x.2.D b → E0.D b)) (fun (x : Nat × Ext) => N - x.1) ((0, E0)) (by kernel_rfl) (⟨Nat.zero_le _, hst, rfl, (fun _ _ h => h)⟩) (by simp) rfl (fun x hI0 J0 hJ0 => ?_)
  obtain ⟨i, Ea⟩ := x
  obtain ⟨hl0, hJa, hna, hsa⟩ := hI0
  dsimp only at hl0 hJa hna hsa hJ0
  cases hd1 : (decide ((i : Int) < (N : Int))) with
  | false =>
    have hp1 := of_decide_eq_false hd1
    refine run_auto [(6, .bool false)] 7 [false] [] [] [] (st' := ⟨[], []⟩) (acc := [(.bool false, .bool false), (.bool (decide ((i : Int) < (N : Int))), .bool false)]) (by kernel_rfl) (by kernel_rfl) ⟨rfl, (bo hd1), trivial⟩ ?_
    refine run_endE (fn := f116) rfl (Nat.le_refl _) (by kernel_rfl) [] [] (e := []) (by kernel_rfl) trivial (fun w1 k1 h1 hE1 => ?_)
    exact ⟨rfl, Ea, hna, hE1, .inl ⟨_, rfl, by have h := hJa; rw [show i = N by omega] at h; exact h⟩⟩
  | true =>
    have hp1 := of_decide_eq_true hd1
    refine run_auto [(6, .bool true)] 18 [true] [] [0, 4, 5, 8, 9] [] (st' := ⟨[(0, .func (.yield l) #[] #[]), (4, iV (N : Int)), (5, iV (i : Int)), (8, .func (.yield l) #[] #[]), (9, iV (i : Int))], []⟩) (acc := [(.bool true, .bool true), (.bool (decide ((i : Int) < (N : Int))), .bool true)]) (by kernel_rfl) (by kernel_rfl) ⟨rfl, (bo hd1), trivial⟩ ?_
    have hpre := rgL_pre (upG) (i := i) (n := N) (by omega)
    refine run_yield l #[iV (i : Int)] (some 10) (by kernel_rfl) hsa (Yt (J (rgL i (upG) ++ [(upG i)])) Jx) (fun w1 hJ1 k1 => Ygives.out (Ygives.of (E := Ea) (hy _ (upG i) Ea w1 hpre hJa hna hJ1) hna)) (fun E3 t hok hn3 hs3 => ?_)
    have hs4 : ∀ b, b < w.heap.size → E3.D b → E0.D b := fun b hb h => (hs3 b h).elim (hsa b hb) (fun h => absurd hb (Nat.not_lt.2 h))
    cases hd2 : t with
    | false =>
      rw [hd2] at hok
      dsimp only [Yt] at hok
      refine run_auto [(11, .bool true)] 3 [true] [] [0, 4, 5] [] (st' := ⟨[(0, .func (.yield l) #[] #[]), (4, iV (N : Int)), (5, iV (i : Int))], []⟩) (acc := [(.bool true, .bool true), (.bool true, .bool true)]) (by kernel_rfl) (by kernel_rfl) ⟨rfl, rfl, trivial⟩ ?_
      refine run_endE (fn := f116) rfl (Nat.le_refl _) (by kernel_rfl) [] [] (e := []) (by kernel_rfl) trivial (fun w1 k1 h1 hE1 => ?_)
      exact ⟨rfl, E3, (hn3.trans hna), hE1, .inr hok⟩
    | true =>
      rw [hd2] at hok
      dsimp only [Yt] at hok
      refine run_auto [(11, .bool false), (12, iV ((i + 1 : Nat) : Int))] 9 [false] [] [0, 4, 5] [] (st' := ⟨[(0, .func (.yield l) #[] #[]), (4, iV (N : Int)), (5, iV ((i + 1 : Nat) : Int))], []⟩) (acc := [(iV (IntKind.i64.wrap ((i : Int) + 1)), iV ((i + 1 : Nat) : Int)), (.bool false, .bool false), (.bool false, .bool false)]) (by kernel_rfl) (by kernel_rfl) ⟨(wr (by omega) (by omega)), rfl, rfl, trivial⟩ ?_
      exact run_round (by kernel_rfl) (hJ0 ((i + 1, E3)) (⟨by dsimp only; omega, by have h := hok; rw [rgL_next]; exact h, (hn3.trans hna), hs4⟩) (by dsimp only; omega))
set_option maxRecDepth 100000 in
theorem firstUntil_any (N bi : Nat) (pr : Nat → Bool) (c1 c2 c3 : Nat) (w : World) (hN : N ≤ 100000) (hbi : w.heap[bi]? = some (.cells #[.int .i64 (N : Int)] 3 (0, 0))) (hso : ∀ i, i < (N + 1) → ∀ w1, Keeps w w1 → Calls Tryz.prog 73 #[.int .i64 (dnN N i), .pointer (some ⟨c1, 0, none⟩), .pointer (some ⟨c2, 0, none⟩), .pointer (some ⟨c3, 0, none⟩)] w1 (RetB (pr i) w1)) : Calls Tryz.prog 71 #[.agg #[.func (.func 112) #[] #[.pointer (some ⟨bi, 0, none⟩)], .func (.func 73) #[] #[.pointer (some ⟨c1, 0, none⟩), .pointer (some ⟨c2, 0, none⟩), .pointer (some ⟨c3, 0, none⟩)]]] w (Ret (.tuple #[.int .i64 (fnV (dnN N) (frN pr (N + 1))), .bool (frN pr (N + 1)).isSome]) w) := by
  have hbo : OwnD [(bi, .cells #[.int .i64 (N : Int)] 3 (0, 0))] (fun _ => False) w := fun q hq => by rw [List.mem_singleton] at hq; subst hq; exact ⟨hbi, fun h => h⟩
  refine calls_run (fn := f71) (c := (f71.body).getD .skip) [.agg #[.func (.func 112) #[] #[.pointer (some ⟨bi, 0, none⟩)], .func (.func 73) #[] #[.pointer (some ⟨c1, 0, none⟩), .pointer (some ⟨c2, 0, none⟩), .pointer (some ⟨c3, 0, none⟩)]]] func71 (by kernel_rfl) (fun _ => False) [] (fun _ h => by cases h) (List.Pairwise.nil) 13 (by kernel_rfl) (by simp) ?_
  refine run_auto [] 2 [] [] [0] [] (st' := ⟨[(0, .agg #[.func (.func 112) #[] #[pA bi], .func (.func 73) #[] #[pA c1, pA c2, pA c3]])], []⟩) (acc := []) (by kernel_rfl) (by kernel_rfl) trivial ?_
  refine run_new (aO #[.func (.func 112) #[] #[pA bi], .func (.func 73) #[] #[pA c1, pA c2, pA c3]] 109) (fun b1 => pA b1) (some 1) (fun _ => by kernel_rfl) (fun b1 hb1 => ?_)
  refine run_new (aO #[iV 0] 3) (fun b2 => pA b2) (some 2) (fun _ => by kernel_rfl) (fun b2 hb2 => ?_)
  refine run_new (aO #[.bool false] 4) (fun b3 => pA b3) (some 3) (fun _ => by kernel_rfl) (fun b3 hb3 => ?_)
  refine run_auto [] 8 [] [2] [1, 2, 3, 6] [0, 1, 2] (st' := ⟨[(1, pA b1), (2, pA b2), (3, pA b3), (6, .func (.func 112) #[] #[pA bi])], [(b3, aO #[.bool false] 4), (b2, aO #[iV 0] 3), (b1, aO #[.func (.func 112) #[] #[pA bi], .func (.func 73) #[] #[pA c1, pA c2, pA c3]] 109)]⟩) (acc := [(pA b1, pA b1)]) (by kernel_rfl) (by kernel_rfl) ⟨rfl, trivial⟩ ?_
  refine run_auto [] 0 [] [] [1, 2, 3, 6] [0, 1, 2] (st' := ⟨[(1, pA b1), (2, pA b2), (3, pA b3), (6, .func (.func 112) #[] #[pA bi])], [(b3, aO #[.bool false] 4), (b2, aO #[iV 0] 3), (b1, aO #[.func (.func 112) #[] #[pA bi], .func (.func 73) #[] #[pA c1, pA c2, pA c3]] 109)]⟩) (acc := []) (by kernel_rfl) (by kernel_rfl) trivial ?_
  refine run_range (σ := Nat) (τ := Nat) 112 #[pA bi] [7] [] [(b3, aO #[.bool false] 4), (b2, aO #[iV 0] 3), (b1, aO #[.func (.func 112) #[] #[pA bi], .func (.func 73) #[] #[pA c1, pA c2, pA c3]] 109)] (OwnD [(bi, aO #[iV (N : Int)] 3)]) (fun l => l <+: rgL (N + 1) (dnG N)) (fun l => l = rgL (N + 1) (dnG N)) (by kernel_rfl) rfl rfl (fun l => by kernel_rfl) rfl (by kernel_rfl) (fun pre x hx => by rw [(rgL_at hx).2.2]; rfl) (downFrom_give N bi hN) (fun D w1 k1 hD => hbo.kept k1 hD)
    (fun s => [(b3, aO #[.bool false] 4), (b2, aO #[iV 0] 3), (b1, aO #[.func (.func 112) #[] #[pA bi], .func (.func 73) #[] #[pA c1, pA c2, pA c3]] 109)]) (fun s => Ext.none) (fun pre s => s = (pre).length ∧ ∀ i, i < s → pr i = false) (fun y => [(b3, aO #[.bool true] 4), (b2, aO #[iV (dnN N y)] 3), (b1, aO #[.func (.func 112) #[] #[pA bi], .func (.func 73) #[] #[pA c1, pA c2, pA c3]] 109)]) (fun y => Ext.none) (fun c y => c = .ret ∧ y < (N + 1) ∧ pr y = true ∧ ∀ i, i < y → pr i = false) (0) (⟨rfl, fun i hi => absurd hi (Nat.not_lt_zero _)⟩) rfl rfl (fun _ _ _ => ⟨rfl, fun _ _ h => h.elim⟩) (fun _ _ _ => rfl)
    (fun pre x s hpre hI l0 ms ro ob w0 Jb Jn Je hkk hll hbeg hnext hexit => ?_) (fun ys s hys hI => ?_) (fun c y hI => ?_)
  · skip
    have hpre : pre ++ [x] <+: rgL (N + 1) (dnG N) := hpre
    have hx := rgL_at hpre
    rw [← hI.1] at hx
    obtain rfl := hx.2.2
    refine run_auto [] 3 [] [] [1, 2, 3, 4] [0, 1, 2] (st' := ⟨[(1, pA b1), (2, pA b2), (3, pA b3), (4, iV (dnN N s))], [(b3, aO #[.bool false] 4), (b2, aO #[iV 0] 3), (b1, aO #[.func (.func 112) #[] #[pA bi], .func (.func 73) #[] #[pA c1, pA c2, pA c3]] 109)]⟩) (acc := []) (by kernel_rfl) (by kernel_rfl) trivial ?_
    refine run_round rfl (hbeg _ ?_)
    refine run_auto [] 6 [] [2] [2, 3, 4, 9, 10] [0, 1, 2] (st' := ⟨[(2, pA b2), (3, pA b3), (4, iV (dnN N s)), (9, .func (.func 73) #[] #[pA c1, pA c2, pA c3]), (10, iV (dnN N s))], [(b3, aO #[.bool false] 4), (b2, aO #[iV 0] 3), (b1, aO #[.func (.func 112) #[] #[pA bi], .func (.func 73) #[] #[pA c1, pA c2, pA c3]] 109)]⟩) (acc := [(pA b1, pA b1)]) (by kernel_rfl) (by kernel_rfl) ⟨rfl, trivial⟩ ?_
    cases hd1 : (pr s) with
    | false =>
      refine run_ret1 73 #[iV (dnN N s), pA c1, pA c2, pA c3] (some 11) (.bool false) (by kernel_rfl) (fun w1 k1 h1 => (by have h := hso s hx.1 w1 ((hkk _ k1).keeps (fun _ h => h)); rw [hd1] at h; exact h)) ?_
      refine run_auto [] 4 [false] [] [] [0, 1, 2] (st' := ⟨[], [(b3, aO #[.bool false] 4), (b2, aO #[iV 0] 3), (b1, aO #[.func (.func 112) #[] #[pA bi], .func (.func 73) #[] #[pA c1, pA c2, pA c3]] 109)]⟩) (acc := [(.bool false, .bool false)]) (by kernel_rfl) (by kernel_rfl) ⟨rfl, trivial⟩ ?_
      exact run_nil rfl (fun a_ w1 g_ => hnext (s + 1) _ ⟨by rw [List.length_append, ← hI.1]; rfl, fun i hi => (Nat.lt_succ_iff_lt_or_eq.1 hi).elim (hI.2 i) (fun h => h ▸ hd1)⟩ (fun b h => h.elim) a_ w1 g_)
    | true =>
      refine run_ret1 73 #[iV (dnN N s), pA c1, pA c2, pA c3] (some 11) (.bool true) (by kernel_rfl) (fun w1 k1 h1 => (by have h := hso s hx.1 w1 ((hkk _ k1).keeps (fun _ h => h)); rw [hd1] at h; exact h)) ?_
      refine run_auto [] 8 [true] [1, 0] [] [0, 1, 2] (st' := ⟨[], [(b3, aO #[.bool true] 4), (b2, aO #[iV (dnN N s)] 3), (b1, aO #[.func (.func 112) #[] #[pA bi], .func (.func 73) #[] #[pA c1, pA c2, pA c3]] 109)]⟩) (acc := [(pA b3, pA b3), (pA b2, pA b2), (.bool true, .bool true)]) (by kernel_rfl) (by kernel_rfl) ⟨rfl, rfl, rfl, trivial⟩ ?_
      exact run_retQ rfl (fun a_ w1 g_ => hexit .ret s _ ⟨rfl, hx.1, hd1, hI.2⟩ (.inl rfl) (fun b h => h.elim) a_ w1 g_)
  · skip
    obtain rfl : ys = rgL (N + 1) (dnG N) := hys
    have hnone : frN pr (N + 1) = none := frN_none fun i hi => hI.2 i (by rw [hI.1, rgL_len]; exact hi)
    refine run_auto [] 6 [] [1, 0] [2, 3] [0, 1] (st' := ⟨[(2, pA b2), (3, pA b3)], [(b3, aO #[.bool false] 4), (b2, aO #[iV 0] 3)]⟩) (acc := [(pA b3, pA b3), (pA b2, pA b2)]) (by kernel_rfl) (by kernel_rfl) ⟨rfl, rfl, trivial⟩ ?_
    refine run_end (fn := f71) rfl (Nat.le_refl _) (by kernel_rfl) [1, 0] [iV 0, .bool false] (e := [(pA b2, pA b2), (pA b3, pA b3)]) (by kernel_rfl) ⟨rfl, rfl, trivial⟩ (fun w1 k1 h1 => ?_)
    exact ⟨by rw [hnone]; rfl, k1.keeps (fun _ h => h)⟩
  · skip
    obtain ⟨rfl, hy1, hy2, hy3⟩ := hI
    have hsome : frN pr (N + 1) = some y := frN_some hy1 hy2 hy3
    refine run_end (fn := f71) rfl (Nat.le_refl _) (by kernel_rfl) [1, 0] [iV (dnN N y), .bool true] (e := [(pA b2, pA b2), (pA b3, pA b3)]) (by kernel_rfl) ⟨rfl, rfl, trivial⟩ (fun w1 k1 h1 => ?_)
    exact ⟨by rw [hsome]; rfl, k1.keeps (fun _ h => h)⟩

set_option maxRecDepth 100000 in
theorem firstDay_any (N bi : Nat) (pr : Nat → Bool) (c1 c2 c3 c4 : Nat) (w : World) (hN : N ≤ 100000) (hbi : w.heap[bi]? = some (.cells #[.int .i64 (N : Int)] 3 (0, 0))) (hso : ∀ i, i < N → ∀ w1, Keeps w w1 → Calls Tryz.prog 79 #[.int .i64 (upN i), .pointer (some ⟨c1, 0, none⟩), .pointer (some ⟨c2, 0, none⟩), .pointer (some ⟨c3, 0, none⟩), .pointer (some ⟨c4, 0, none⟩)] w1 (RetB (pr i) w1)) : Calls Tryz.prog 71 #[.agg #[.func (.func 116) #[] #[.pointer (some ⟨bi, 0, none⟩)], .func (.func 79) #[] #[.pointer (some ⟨c1, 0, none⟩), .pointer (some ⟨c2, 0, none⟩), .pointer (some ⟨c3, 0, none⟩), .pointer (some ⟨c4, 0, none⟩)]]] w (Ret (.tuple #[.int .i64 (fnV (upN) (frN pr N)), .bool (frN pr N).isSome]) w) := by
  have hbo : OwnD [(bi, .cells #[.int .i64 (N : Int)] 3 (0, 0))] (fun _ => False) w := fun q hq => by rw [List.mem_singleton] at hq; subst hq; exact ⟨hbi, fun h => h⟩
  refine calls_run (fn := f71) (c := (f71.body).getD .skip) [.agg #[.func (.func 116) #[] #[.pointer (some ⟨bi, 0, none⟩)], .func (.func 79) #[] #[.pointer (some ⟨c1, 0, none⟩), .pointer (some ⟨c2, 0, none⟩), .pointer (some ⟨c3, 0, none⟩), .pointer (some ⟨c4, 0, none⟩)]]] func71 (by kernel_rfl) (fun _ => False) [] (fun _ h => by cases h) (List.Pairwise.nil) 13 (by kernel_rfl) (by simp) ?_
  refine run_auto [] 2 [] [] [0] [] (st' := ⟨[(0, .agg #[.func (.func 116) #[] #[pA bi], .func (.func 79) #[] #[pA c1, pA c2, pA c3, pA c4]])], []⟩) (acc := []) (by kernel_rfl) (by kernel_rfl) trivial ?_
  refine run_new (aO #[.func (.func 116) #[] #[pA bi], .func (.func 79) #[] #[pA c1, pA c2, pA c3, pA c4]] 109) (fun b1 => pA b1) (some 1) (fun _ => by kernel_rfl) (fun b1 hb1 => ?_)
  refine run_new (aO #[iV 0] 3) (fun b2 => pA b2) (some 2) (fun _ => by kernel_rfl) (fun b2 hb2 => ?_)
  refine run_new (aO #[.bool false] 4) (fun b3 => pA b3) (some 3) (fun _ => by kernel_rfl) (fun b3 hb3 => ?_)
  refine run_auto [] 8 [] [2] [1, 2, 3, 6] [0, 1, 2] (st' := ⟨[(1, pA b1), (2, pA b2), (3, pA b3), (6, .func (.func 116) #[] #[pA bi])], [(b3, aO #[.bool false] 4), (b2, aO #[iV 0] 3), (b1, aO #[.func (.func 116) #[] #[pA bi], .func (.func 79) #[] #[pA c1, pA c2, pA c3, pA c4]] 109)]⟩) (acc := [(pA b1, pA b1)]) (by kernel_rfl) (by kernel_rfl) ⟨rfl, trivial⟩ ?_
  refine run_auto [] 0 [] [] [1, 2, 3, 6] [0, 1, 2] (st' := ⟨[(1, pA b1), (2, pA b2), (3, pA b3), (6, .func (.func 116) #[] #[pA bi])], [(b3, aO #[.bool false] 4), (b2, aO #[iV 0] 3), (b1, aO #[.func (.func 116) #[] #[pA bi], .func (.func 79) #[] #[pA c1, pA c2, pA c3, pA c4]] 109)]⟩) (acc := []) (by kernel_rfl) (by kernel_rfl) trivial ?_
  refine run_range (σ := Nat) (τ := Nat) 116 #[pA bi] [7] [] [(b3, aO #[.bool false] 4), (b2, aO #[iV 0] 3), (b1, aO #[.func (.func 116) #[] #[pA bi], .func (.func 79) #[] #[pA c1, pA c2, pA c3, pA c4]] 109)] (OwnD [(bi, aO #[iV (N : Int)] 3)]) (fun l => l <+: rgL N (upG)) (fun l => l = rgL N (upG)) (by kernel_rfl) rfl rfl (fun l => by kernel_rfl) rfl (by kernel_rfl) (fun pre x hx => by rw [(rgL_at hx).2.2]; rfl) (upTo_give N bi hN) (fun D w1 k1 hD => hbo.kept k1 hD)
    (fun s => [(b3, aO #[.bool false] 4), (b2, aO #[iV 0] 3), (b1, aO #[.func (.func 116) #[] #[pA bi], .func (.func 79) #[] #[pA c1, pA c2, pA c3, pA c4]] 109)]) (fun s => Ext.none) (fun pre s => s = (pre).length ∧ ∀ i, i < s → pr i = false) (fun y => [(b3, aO #[.bool true] 4), (b2, aO #[iV (upN y)] 3), (b1, aO #[.func (.func 116) #[] #[pA bi], .func (.func 79) #[] #[pA c1, pA c2, pA c3, pA c4]] 109)]) (fun y => Ext.none) (fun c y => c = .ret ∧ y < N ∧ pr y = true ∧ ∀ i, i < y → pr i = false) (0) (⟨rfl, fun i hi => absurd hi (Nat.not_lt_zero _)⟩) rfl rfl (fun _ _ _ => ⟨rfl, fun _ _ h => h.elim⟩) (fun _ _ _ => rfl)
    (fun pre x s hpre hI l0 ms ro ob w0 Jb Jn Je hkk hll hbeg hnext hexit => ?_) (fun ys s hys hI => ?_) (fun c y hI => ?_)
  · skip
    have hpre : pre ++ [x] <+: rgL N (upG) := hpre
    have hx := rgL_at hpre
    rw [← hI.1] at hx
    obtain rfl := hx.2.2
    refine run_auto [] 3 [] [] [1, 2, 3, 4] [0, 1, 2] (st' := ⟨[(1, pA b1), (2, pA b2), (3, pA b3), (4, iV (upN s))], [(b3, aO #[.bool false] 4), (b2, aO #[iV 0] 3), (b1, aO #[.func (.func 116) #[] #[pA bi], .func (.func 79) #[] #[pA c1, pA c2, pA c3, pA c4]] 109)]⟩) (acc := []) (by kernel_rfl) (by kernel_rfl) trivial ?_
    refine run_round rfl (hbeg _ ?_)
    refine run_auto [] 6 [] [2] [2, 3, 4, 9, 10] [0, 1, 2] (st' := ⟨[(2, pA b2), (3, pA b3), (4, iV (upN s)), (9, .func (.func 79) #[] #[pA c1, pA c2, pA c3, pA c4]), (10, iV (upN s))], [(b3, aO #[.bool false] 4), (b2, aO #[iV 0] 3), (b1, aO #[.func (.func 116) #[] #[pA bi], .func (.func 79) #[] #[pA c1, pA c2, pA c3, pA c4]] 109)]⟩) (acc := [(pA b1, pA b1)]) (by kernel_rfl) (by kernel_rfl) ⟨rfl, trivial⟩ ?_
    cases hd1 : (pr s) with
    | false =>
      refine run_ret1 79 #[iV (upN s), pA c1, pA c2, pA c3, pA c4] (some 11) (.bool false) (by kernel_rfl) (fun w1 k1 h1 => (by have h := hso s hx.1 w1 ((hkk _ k1).keeps (fun _ h => h)); rw [hd1] at h; exact h)) ?_
      refine run_auto [] 4 [false] [] [] [0, 1, 2] (st' := ⟨[], [(b3, aO #[.bool false] 4), (b2, aO #[iV 0] 3), (b1, aO #[.func (.func 116) #[] #[pA bi], .func (.func 79) #[] #[pA c1, pA c2, pA c3, pA c4]] 109)]⟩) (acc := [(.bool false, .bool false)]) (by kernel_rfl) (by kernel_rfl) ⟨rfl, trivial⟩ ?_
      exact run_nil rfl (fun a_ w1 g_ => hnext (s + 1) _ ⟨by rw [List.length_append, ← hI.1]; rfl, fun i hi => (Nat.lt_succ_iff_lt_or_eq.1 hi).elim (hI.2 i) (fun h => h ▸ hd1)⟩ (fun b h => h.elim) a_ w1 g_)
    | true =>
      refine run_ret1 79 #[iV (upN s), pA c1, pA c2, pA c3, pA c4] (some 11) (.bool true) (by kernel_rfl) (fun w1 k1 h1 => (by have h := hso s hx.1 w1 ((hkk _ k1).keeps (fun _ h => h)); rw [hd1] at h; exact h)) ?_
      refine run_auto [] 8 [true] [1, 0] [] [0, 1, 2] (st' := ⟨[], [(b3, aO #[.bool true] 4), (b2, aO #[iV (upN s)] 3), (b1, aO #[.func (.func 116) #[] #[pA bi], .func (.func 79) #[] #[pA c1, pA c2, pA c3, pA c4]] 109)]⟩) (acc := [(pA b3, pA b3), (pA b2, pA b2), (.bool true, .bool true)]) (by kernel_rfl) (by kernel_rfl) ⟨rfl, rfl, rfl, trivial⟩ ?_
      exact run_retQ rfl (fun a_ w1 g_ => hexit .ret s _ ⟨rfl, hx.1, hd1, hI.2⟩ (.inl rfl) (fun b h => h.elim) a_ w1 g_)
  · skip
    obtain rfl : ys = rgL N (upG) := hys
    have hnone : frN pr N = none := frN_none fun i hi => hI.2 i (by rw [hI.1, rgL_len]; exact hi)
    refine run_auto [] 6 [] [1, 0] [2, 3] [0, 1] (st' := ⟨[(2, pA b2), (3, pA b3)], [(b3, aO #[.bool false] 4), (b2, aO #[iV 0] 3)]⟩) (acc := [(pA b3, pA b3), (pA b2, pA b2)]) (by kernel_rfl) (by kernel_rfl) ⟨rfl, rfl, trivial⟩ ?_
    refine run_end (fn := f71) rfl (Nat.le_refl _) (by kernel_rfl) [1, 0] [iV 0, .bool false] (e := [(pA b2, pA b2), (pA b3, pA b3)]) (by kernel_rfl) ⟨rfl, rfl, trivial⟩ (fun w1 k1 h1 => ?_)
    exact ⟨by rw [hnone]; rfl, k1.keeps (fun _ h => h)⟩
  · skip
    obtain ⟨rfl, hy1, hy2, hy3⟩ := hI
    have hsome : frN pr N = some y := frN_some hy1 hy2 hy3
    refine run_end (fn := f71) rfl (Nat.le_refl _) (by kernel_rfl) [1, 0] [iV (upN y), .bool true] (e := [(pA b2, pA b2), (pA b3, pA b3)]) (by kernel_rfl) ⟨rfl, rfl, trivial⟩ (fun w1 k1 h1 => ?_)
    exact ⟨by rw [hsome]; rfl, k1.keeps (fun _ h => h)⟩

set_option maxRecDepth 100000 in
theorem needFound_any (z : Int) (b : Bool) (w : World)  : Calls Tryz.prog 70 #[.int .i64 z, .bool b] w (Fnd b z w) := by
  refine calls_run (fn := f70) (c := (f70.body).getD .skip) [.int .i64 z, .bool b] func70 (by kernel_rfl) (fun _ => False) [] (fun _ h => by cases h) (List.Pairwise.nil) 9 (by kernel_rfl) (by simp) ?_
  cases hd1 : b with
  | false =>
    refine run_auto [(6, .bool true)] 13 [true] [] [0, 4, 7] [] (st' := ⟨[(0, iV z), (4, iV 0), (7, .iface 29 (iV 4))], []⟩) (acc := [(.bool true, .bool true), (.bool true, .bool true)]) (by kernel_rfl) (by kernel_rfl) ⟨rfl, rfl, trivial⟩ ?_
    exact run_panic rfl (Nat.le_refl _) (Instr.panic (.iface 29 (iV 4)) >>= fun v => pure (Next.value v)) none (.iface 29 (iV 4)) (by kernel_rfl) (fun w => by kernel_rfl) (fun w1 k1 h1 => (by unfold Fnd; exact ⟨rfl, k1.keeps (fun _ h => h)⟩))
  | true =>
    refine run_auto [(6, .bool false)] 17 [false] [] [4] [] (st' := ⟨[(4, iV z)], []⟩) (acc := [(.bool false, .bool false), (.bool false, .bool false)]) (by kernel_rfl) (by kernel_rfl) ⟨rfl, rfl, trivial⟩ ?_
    refine run_end (fn := f70) rfl (Nat.le_refl _) (by kernel_rfl) [] [iV z] (e := []) (by kernel_rfl) trivial (fun w1 k1 h1 => ?_)
    unfold Fnd
    skip
    exact ⟨rfl, k1.keeps (fun _ h => h)⟩

end Go.Proofs.YtdehgplklgfcdaaGreat

namespace Go.Proofs.YtdehgplklgfcdaaGreat
open Go.RowKit Go.Proofs.Tryz


theorem c1 {B : World} {b o j : Nat} {u0 : Value} (h0 : B.cell? ⟨b, o + j, none⟩ = some u0) : ∀ i u, [u0][i]? = some u → B.cell? ⟨b, o + j + i, none⟩ = some u := by
  intro i u hu
  match i, hu with
  | 0, hu => injection hu with hu; subst hu; exact h0
  | i + 1, hu => simp at hu
def elI (L : List Int) (i : Nat) : Int := (L[i]?).getD 0
/-- The slice at a holds these numbers. -/
def Ins (w : World) (a : Option Addr) (L : List Int) : Prop := L ≠ [] → ∃ b o, a = some ⟨b, o, none⟩ ∧ ∀ i, i < L.length → w.cell? ⟨b, o + i, none⟩ = some (.int .i64 (elI L i))
theorem Ins.keep {w w' : World} {a : Option Addr} {L : List Int} (h : Ins w a L) (k : Keeps w w') : Ins w' a L := fun hx =>
  let ⟨b, o, e, hc⟩ := h hx
  ⟨b, o, e, fun i hi => k.cell (hc i hi)⟩
def vUses (n : Int) : Bool := decide (0 ≤ n ∧ n ≤ 20)
def sumI (L : List Int) : Int := L.foldl (· + ·) 0
/-- What is left after so many uses can be too short? -/
def tooF (x : Sp) (u : Sp) (m n : Int) : Bool := decide ((movS x (negS (manS n u))).1 < m)
def afterR (p : Wb) (n : Int) : Sum Int Sp := bif p.n.ok then bif decide (0 ≤ n ∧ n < (p.es.length : Int)) then bif p.n.can then .inr (mC p.n (n.toNat + 1)) else .inl 10 else .inl 2 else .inl 1
def lostR (p : Wb) : Sum Int Sp := bif p.n.ok then bif p.n.can then .inr p.n.lost else .inl 10 else .inl 1
def belowR (p : Wb) (m : Int) : Sum Int Sp := bif p.n.ok then bif spI (m, m) (-1000) 1000 then bif p.n.can then .inr (((belS p.n m p.es.length : Nat) : Int), ((belP p.n m p.es.length : Nat) : Int)) else .inl 10 else .inl 2 else .inl 1
def judV (x s : Sp) : Int := bif decide (s.1 ≤ x.1 ∧ x.2 ≤ s.2) then 2 else bif possS (cutS x s) then 1 else 0
def fitsR (p : Wb) (s : Sp) : Sum Int Int := bif p.n.ok then bif spI s (-1000) 1000 then bif p.n.can then .inr (judV (mC p.n p.es.length) s) else .inl 10 else .inl 2 else .inl 1
def untF (p : Wb) (m : Int) (i : Nat) : Bool := !tooF (mC p.n p.es.length) (p.ul, p.uh) m (dnN 100 i)
def untilR (p : Wb) (m : Int) : Sum Int Int := bif p.n.ok then bif spI (m, m) (-1000) 1000 then bif p.n.can then bif (frN (untF p m) 101).isSome then .inr (fnV (dnN 100) (frN (untF p m) 101)) else .inl 4 else .inl 10 else .inl 2 else .inl 1
def dayF (p : Wb) (m : Int) (L : List Int) (i : Nat) : Bool := tooF (mC p.n p.es.length) (p.ul, p.uh) m (sumI (L.take (i + 1)))
def dayR (p : Wb) (m : Int) (L : List Int) : Sum Int Int := bif p.n.ok then bif decide (L.length ≤ 10) then bif spI (m, m) (-1000) 1000 then bif L.all vUses then bif p.n.can then bif (frN (dayF p m L) L.length).isSome then .inr (fnV upN (frN (dayF p m L) L.length)) else .inl 4 else .inl 10 else .inl 2 else .inl 2 else .inl 3 else .inl 1
set_option maxRecDepth 100000 in
theorem judge_any (a b c d : Int) (w : World)  : Calls Tryz.prog 65 #[.agg #[.int .i64 c, .int .i64 d], .func (.func 66) #[.agg #[.int .i64 a, .int .i64 b]] #[], .func (.func 67) #[.agg #[.int .i64 a, .int .i64 b]] #[]] w (RetI (judV (a, b) (c, d)) w) := by
  refine calls_run (fn := f65) (c := (f65.body).getD .skip) [.agg #[.int .i64 c, .int .i64 d], .func (.func 66) #[.agg #[.int .i64 a, .int .i64 b]] #[], .func (.func 67) #[.agg #[.int .i64 a, .int .i64 b]] #[]] func65 (by kernel_rfl) (fun _ => False) [] (fun _ h => by cases h) (List.Pairwise.nil) 15 (by kernel_rfl) (by simp) ?_
  refine run_auto [] 2 [] [] [0, 1, 2] [] (st' := ⟨[(0, .agg #[iV c, iV d]), (1, .func (.func 66) #[.agg #[iV a, iV b]] #[]), (2, .func (.func 67) #[.agg #[iV a, iV b]] #[])], []⟩) (acc := []) (by kernel_rfl) (by kernel_rfl) trivial ?_
  refine run_new (aO #[iV c, iV d] 23) (fun b1 => pA b1) (some 3) (fun _ => by kernel_rfl) (fun b1 hb1 => ?_)
  refine run_auto [] 8 [] [0] [2, 3, 6, 8, 9] [0] (st' := ⟨[(2, .func (.func 67) #[.agg #[iV a, iV b]] #[]), (3, pA b1), (6, iV 0), (8, .func (.func 66) #[.agg #[iV a, iV b]] #[]), (9, .agg #[iV c, iV d])], [(b1, aO #[iV c, iV d] 23)]⟩) (acc := [(pA b1, pA b1)]) (by kernel_rfl) (by kernel_rfl) ⟨rfl, trivial⟩ ?_
  cases hd1 : (decide (c ≤ a ∧ b ≤ d)) with
  | false =>
    have hp1 := of_decide_eq_false hd1
    refine run_ret1 66 #[.agg #[iV a, iV b], .agg #[iV c, iV d]] (some 10) (.bool false) (by kernel_rfl) (fun w1 k1 h1 => (by have h := liesIn_any a b c d w1; rw [hd1] at h; exact h)) ?_
    refine run_auto [] 7 [false] [0] [6, 12, 13] [] (st' := ⟨[(6, iV 0), (12, .func (.func 67) #[.agg #[iV a, iV b]] #[]), (13, .agg #[iV c, iV d])], []⟩) (acc := [(pA b1, pA b1), (.bool false, .bool false)]) (by kernel_rfl) (by kernel_rfl) ⟨rfl, rfl, trivial⟩ ?_
    cases hd2 : (possS (cutS (a, b) (c, d))) with
    | false =>
      refine run_ret1 67 #[.agg #[iV a, iV b], .agg #[iV c, iV d]] (some 14) (.bool false) (by kernel_rfl) (fun w1 k1 h1 => (by have h := meets_any a b c d w1; rw [hd2] at h; exact h)) ?_
      refine run_auto [] 9 [false] [] [6] [] (st' := ⟨[(6, iV 0)], []⟩) (acc := [(.bool false, .bool false)]) (by kernel_rfl) (by kernel_rfl) ⟨rfl, trivial⟩ ?_
      refine run_end (fn := f65) rfl (Nat.le_refl _) (by kernel_rfl) [] [iV 0] (e := []) (by kernel_rfl) trivial (fun w1 k1 h1 => ?_)
      exact ⟨by unfold judV; rw [show (decide (c ≤ a ∧ b ≤ d)) = false from hd1, show (possS (cutS (a, b) (c, d))) = false from hd2]; rfl, k1.keeps (fun _ h => h)⟩
    | true =>
      refine run_ret1 67 #[.agg #[iV a, iV b], .agg #[iV c, iV d]] (some 14) (.bool true) (by kernel_rfl) (fun w1 k1 h1 => (by have h := meets_any a b c d w1; rw [hd2] at h; exact h)) ?_
      refine run_auto [] 7 [true] [] [6] [] (st' := ⟨[(6, iV 1)], []⟩) (acc := [(.bool true, .bool true)]) (by kernel_rfl) (by kernel_rfl) ⟨rfl, trivial⟩ ?_
      refine run_end (fn := f65) rfl (Nat.le_refl _) (by kernel_rfl) [] [iV 1] (e := []) (by kernel_rfl) trivial (fun w1 k1 h1 => ?_)
      exact ⟨by unfold judV; rw [show (decide (c ≤ a ∧ b ≤ d)) = false from hd1, show (possS (cutS (a, b) (c, d))) = true from hd2]; rfl, k1.keeps (fun _ h => h)⟩
  | true =>
    have hp1 := of_decide_eq_true hd1
    refine run_ret1 66 #[.agg #[iV a, iV b], .agg #[iV c, iV d]] (some 10) (.bool true) (by kernel_rfl) (fun w1 k1 h1 => (by have h := liesIn_any a b c d w1; rw [hd1] at h; exact h)) ?_
    refine run_auto [] 7 [true] [] [6] [] (st' := ⟨[(6, iV 2)], []⟩) (acc := [(.bool true, .bool true)]) (by kernel_rfl) (by kernel_rfl) ⟨rfl, trivial⟩ ?_
    refine run_end (fn := f65) rfl (Nat.le_refl _) (by kernel_rfl) [] [iV 2] (e := []) (by kernel_rfl) trivial (fun w1 k1 h1 => ?_)
    exact ⟨by unfold judV; rw [show (decide (c ≤ a ∧ b ≤ d)) = true from hd1]; rfl, k1.keeps (fun _ h => h)⟩

set_option maxRecDepth 100000 in
theorem after1_any (p : Wb) (n : Int) (bp b_n : Nat) (w : World) (hp : p.In w) (hbp : w.heap[bp]? = some (.cells #[.int .i64 p.ll, .int .i64 p.lh, .int .i64 p.ul, .int .i64 p.uh, .slice p.ea p.es.length p.ec] 26 (0, 0))) (hb_n : w.heap[b_n]? = some (.cells #[.int .i64 n] 3 (0, 0)))  : Calls Tryz.prog 42 #[.pointer (some ⟨bp, 0, none⟩), .pointer (some ⟨b_n, 0, none⟩)] w (W2 (afterR p n) w) := by
  refine calls_run (fn := f42) (c := (f42.body).getD .skip) [.pointer (some ⟨bp, 0, none⟩), .pointer (some ⟨b_n, 0, none⟩)] func42 (by kernel_rfl) (fun _ => False) [] (fun _ h => by cases h) (List.Pairwise.nil) 14 (by kernel_rfl) (by simp) ?_
  refine run_auto [] 2 [] [] [0, 1] [] (st' := ⟨[(0, pA bp), (1, pA b_n)], []⟩) (acc := []) (by kernel_rfl) (by kernel_rfl) trivial ?_
  refine run_new (aO #[iV 0, iV 0] 23) (fun b1 => pA b1) (some 2) (fun _ => by kernel_rfl) (fun b1 hb1 => ?_)
  refine run_auto [] 3 [] [] [0, 1, 2] [0] (st' := ⟨[(0, pA bp), (1, pA b_n), (2, pA b1)], [(b1, aO #[iV 0, iV 0] 23)]⟩) (acc := []) (by kernel_rfl) (by kernel_rfl) trivial ?_
  refine run_v (Instr.loadAt 26 (pA bp) >>= fun v => pure (Next.value v)) (some 3) (.agg #[iV p.ll, iV p.lh, iV p.ul, iV p.uh, .slice p.ea p.es.length p.ec]) (by kernel_rfl) (fun w1 k1 h1 => load_in (base := 0) (off := 0) k1 (fun h => h) [iV p.ll, iV p.lh, iV p.ul, iV p.uh, .slice p.ea p.es.length p.ec] (fun i u hi => by rw [Nat.zero_add]; exact cells_of_heap hbp i u hi) (by kernel_rfl)) ?_
  cases hd1 : p.n.ok with
  | false =>
    exact run_panics rfl (Nat.le_refl _) 43 #[.agg #[iV p.ll, iV p.lh, iV p.ul, iV p.uh, .slice p.ea p.es.length p.ec]] (some 4) (pe 1) (by kernel_rfl) (fun w1 k1 h1 => (by have h := needBlock_any p w1 (hp.keep (k1.keeps (fun _ h => h))); rw [hd1] at h; exact h)) (fun w1 k1 h1 => (by unfold afterR; rw [hd1]; exact ⟨rfl, k1.keeps (fun _ h => h)⟩))
  | true =>
    have hF := Wn.fine hd1
    have hn8 : p.es.length ≤ 8 := hF.n8
    have hu : 0 ≤ p.ul ∧ p.ul ≤ p.uh ∧ p.uh ≤ 3 := hF.u
    refine run_ret1 43 #[.agg #[iV p.ll, iV p.lh, iV p.ul, iV p.uh, .slice p.ea p.es.length p.ec]] (some 4) (.tuple #[]) (by kernel_rfl) (fun w1 k1 h1 => (by have h := needBlock_any p w1 (hp.keep (k1.keeps (fun _ h => h))); rw [hd1] at h; exact h)) ?_
    refine run_auto [] 3 [] [] [0, 1, 2] [0] (st' := ⟨[(0, pA bp), (1, pA b_n), (2, pA b1)], [(b1, aO #[iV 0, iV 0] 23)]⟩) (acc := []) (by kernel_rfl) (by kernel_rfl) trivial ?_
    refine run_v (Instr.loadAt 26 (pA bp) >>= fun v => pure (Next.value v)) (some 5) (.agg #[iV p.ll, iV p.lh, iV p.ul, iV p.uh, .slice p.ea p.es.length p.ec]) (by kernel_rfl) (fun w1 k1 h1 => load_in (base := 0) (off := 0) k1 (fun h => h) [iV p.ll, iV p.lh, iV p.ul, iV p.uh, .slice p.ea p.es.length p.ec] (fun i u hi => by rw [Nat.zero_add]; exact cells_of_heap hbp i u hi) (by kernel_rfl)) ?_
    refine run_v (Instr.loadAt 3 (pA b_n) >>= fun v => pure (Next.value v)) (some 6) (iV n) (by kernel_rfl) (fun w1 k1 h1 => load_in (base := 0) (off := 0) k1 (fun h => h) [iV n] (fun i u hi => by rw [Nat.zero_add]; exact cells_of_heap hb_n i u hi) (by kernel_rfl)) ?_
    cases hd2 : (decide (0 ≤ n ∧ n < (p.es.length : Int))) with
    | false =>
      have hp2 := of_decide_eq_false hd2
      exact run_panics rfl (Nat.le_refl _) 44 #[.agg #[iV p.ll, iV p.lh, iV p.ul, iV p.uh, .slice p.ea p.es.length p.ec], iV n] (some 7) (pe 2) (by kernel_rfl) (fun w1 k1 h1 => (by have h := needEvent_any p n w1; rw [hd2] at h; exact h)) (fun w1 k1 h1 => (by unfold afterR; rw [hd1, hd2]; exact ⟨rfl, k1.keeps (fun _ h => h)⟩))
    | true =>
      have hp2 := of_decide_eq_true hd2
      obtain ⟨m, rfl⟩ : ∃ m : Nat, n = (m : Int) := ⟨n.toNat, by have := of_decide_eq_true hd2; omega⟩
      have hlt : m < p.es.length := by have := of_decide_eq_true hd2; omega
      refine run_ret1 44 #[.agg #[iV p.ll, iV p.lh, iV p.ul, iV p.uh, .slice p.ea p.es.length p.ec], iV (m : Int)] (some 7) (.tuple #[]) (by kernel_rfl) (fun w1 k1 h1 => (by have h := needEvent_any p (m : Int) w1; rw [hd2] at h; exact h)) ?_
      refine run_auto [] 2 [] [] [0, 1, 2] [0] (st' := ⟨[(0, pA bp), (1, pA b_n), (2, pA b1)], [(b1, aO #[iV 0, iV 0] 23)]⟩) (acc := []) (by kernel_rfl) (by kernel_rfl) trivial ?_
      cases hd3 : p.n.can with
      | false =>
        refine draw 7 [{ val := fun _ => .agg #[iV p.ll, iV p.lh, iV p.ul, iV p.uh, .slice p.ea p.es.length p.ec], slots := [0] },
                  { upd := [(2, fun _ => .deferred none)], news := [2], slots := [8] },
                  { val := fun _ => iV (m : Int), slots := [1] },
                  { val := fun _ => iV ((m + 1 : Nat) : Int), slots := [10] },
                  { reads := [2] },
                  { reads := [2] },
                  { reads := [2] }] [[], [0], [], [2], [0, 1, 2, 3], [0, 1, 2, 3, 4], [0, 1, 2, 3, 4, 5]] (by kernel_rfl) (by kernel_rfl) (by kernel_rfl) (by kernel_rfl) [] [2] (by kernel_rfl)
                  ⟨⟨⟨⟨⟨⟨⟨trivial,
                  tri_v (fun β => (Instr.loadAt 26 (pA bp) >>= fun v => pure (Next.value v))) (by kernel_rfl) (fun β extra => by kernel_rfl) (fun β => by kernel_rfl) (fun β w1 k1 h1 => load_in (base := 0) (off := 0) k1 (fun h => h) [iV p.ll, iV p.lh, iV p.ul, iV p.uh, .slice p.ea p.es.length p.ec] (fun i u hi => by rw [Nat.zero_add]; exact cells_of_heap hbp i u hi) (by kernel_rfl))⟩,
                  tri_panics rfl (Nat.le_refl _) 45 (fun β => #[.agg #[iV p.ll, iV p.lh, iV p.ul, iV p.uh, .slice p.ea p.es.length p.ec]]) (pe 10) (fun β extra => by kernel_rfl) (fun β w1 k1 h1 => (by have h := needTruth_any p w1 (hp.keep (k1.keeps (fun _ h => h))) hF; unfold Tru at h; rw [hd3] at h; exact h)) (fun w1 k1 => (by unfold afterR; rw [hd1, hd2, hd3]; exact ⟨rfl, k1.keeps (fun _ h => h)⟩))⟩,
                  tri_v (fun β => (Instr.loadAt 3 (pA b_n) >>= fun v => pure (Next.value v))) (by kernel_rfl) (fun β extra => by kernel_rfl) (fun β => by kernel_rfl) (fun β w1 k1 h1 => load_in (base := 0) (off := 0) k1 (fun h => h) [iV (m : Int)] (fun i u hi => by rw [Nat.zero_add]; exact cells_of_heap hb_n i u hi) (by kernel_rfl))⟩,
                  tri_quiet (fun β => [(11, iV ((m + 1 : Nat) : Int))]) [] [] (fun β => [(iV (IntKind.i64.wrap ((m : Int) + 1)), iV ((m + 1 : Nat) : Int))]) (by kernel_rfl) (fun β extra => by kernel_rfl) (by kernel_rfl) (fun β => ⟨(wr (by omega) (by omega)), trivial⟩)⟩,
                  tri_void (fun β => ⟨β 2, [], by kernel_rfl⟩)⟩,
                  tri_void (fun β => ⟨β 2, [], by kernel_rfl⟩)⟩,
                  tri_void (fun β => ⟨β 2, [], by kernel_rfl⟩)⟩
                  (fun β => ⟨[], [(β 2, .deferred none)]⟩) (fun β => by kernel_rfl) (fun β2 => run_void)
      | true =>
        refine draw 7 [{ val := fun _ => .agg #[iV p.ll, iV p.lh, iV p.ul, iV p.uh, .slice p.ea p.es.length p.ec], slots := [0] },
                  { val := fun _ => .agg (rowL 9 (cC p.n)).toArray, slots := [8] },
                  { val := fun _ => iV (m : Int), slots := [1] },
                  { val := fun _ => iV ((m + 1 : Nat) : Int), slots := [10] },
                  { val := fun _ => .agg #[iV ((mC p.n (m + 1 : Nat)).1), iV ((mC p.n (m + 1 : Nat)).2)], slots := [9, 11] },
                  { val := fun _ => .agg #[iV ((mC p.n (m + 1 : Nat)).1), iV ((mC p.n (m + 1 : Nat)).2)], slots := [12] },
                  { upd := [(0, fun l => aO #[iV ((mC p.n (m + 1 : Nat)).1), iV ((mC p.n (m + 1 : Nat)).2)] 23)], slots := [2, 13], reads := [0] }] [[], [0], [], [2], [0, 1, 2, 3], [0, 1, 2, 3, 4], [0, 1, 2, 3, 4, 5]] (by kernel_rfl) (by kernel_rfl) (by kernel_rfl) (by kernel_rfl) [2] [0] (by kernel_rfl)
                  ⟨⟨⟨⟨⟨⟨⟨trivial,
                  tri_v (fun β => (Instr.loadAt 26 (pA bp) >>= fun v => pure (Next.value v))) (by kernel_rfl) (fun β extra => by kernel_rfl) (fun β => by kernel_rfl) (fun β w1 k1 h1 => load_in (base := 0) (off := 0) k1 (fun h => h) [iV p.ll, iV p.lh, iV p.ul, iV p.uh, .slice p.ea p.es.length p.ec] (fun i u hi => by rw [Nat.zero_add]; exact cells_of_heap hbp i u hi) (by kernel_rfl))⟩,
                  tri_call 45 (fun β => #[.agg #[iV p.ll, iV p.lh, iV p.ul, iV p.uh, .slice p.ea p.es.length p.ec]]) (by kernel_rfl) (fun β extra => by kernel_rfl) (fun β => by kernel_rfl) (fun β w1 k1 h1 => (by have h := needTruth_any p w1 (hp.keep (k1.keeps (fun _ h => h))) hF; unfold Tru at h; rw [hd3] at h; exact h))⟩,
                  tri_v (fun β => (Instr.loadAt 3 (pA b_n) >>= fun v => pure (Next.value v))) (by kernel_rfl) (fun β extra => by kernel_rfl) (fun β => by kernel_rfl) (fun β w1 k1 h1 => load_in (base := 0) (off := 0) k1 (fun h => h) [iV (m : Int)] (fun i u hi => by rw [Nat.zero_add]; exact cells_of_heap hb_n i u hi) (by kernel_rfl))⟩,
                  tri_quiet (fun β => [(11, iV ((m + 1 : Nat) : Int))]) [] [] (fun β => [(iV (IntKind.i64.wrap ((m : Int) + 1)), iV ((m + 1 : Nat) : Int))]) (by kernel_rfl) (fun β extra => by kernel_rfl) (by kernel_rfl) (fun β => ⟨(wr (by omega) (by omega)), trivial⟩)⟩,
                  tri_v (fun β => (Instr.index 77 (.agg (rowL 9 (cC p.n)).toArray) (iV ((m + 1 : Nat) : Int)) >>= fun v => pure (Next.value v))) (by kernel_rfl) (fun β extra => by kernel_rfl) (fun β => by kernel_rfl) (fun β w1 k1 h1 => index_rowS (e := 75) (n := 2) (len := 9) (i := (m + 1 : Nat)) (by kernel_rfl) (by kernel_rfl) (by kernel_rfl) (fun _ _ => rfl) (by omega) .i64 w1)⟩,
                  tri_quiet (fun β => []) [] [] (fun β => []) (by kernel_rfl) (fun β extra => by kernel_rfl) (by kernel_rfl) (fun β => trivial)⟩,
                  tri_quiet (fun β => []) [0] [0] (fun β => [(pA b1, pA b1)]) (by kernel_rfl) (fun β extra => by kernel_rfl) (by kernel_rfl) (fun β => ⟨rfl, trivial⟩)⟩
                  (fun β => ⟨[(2, pA b1)], [(b1, aO #[iV ((mC p.n (m + 1 : Nat)).1), iV ((mC p.n (m + 1 : Nat)).2)] 23)]⟩) (fun β => by kernel_rfl) (fun β2 => ?_)
        refine run_end (fn := f42) rfl (Nat.le_refl _) (by kernel_rfl) [0] [.agg #[iV ((mC p.n (m + 1 : Nat)).1), iV ((mC p.n (m + 1 : Nat)).2)]] (e := [(pA b1, pA b1)]) (by kernel_rfl) ⟨rfl, trivial⟩ (fun w1 k1 h1 => ?_)
        unfold afterR
        rw [hd1, hd2, hd3]
        exact ⟨rfl, k1.keeps (fun _ h => h)⟩

set_option maxRecDepth 100000 in
theorem lost1_any (p : Wb)  (bp : Nat) (w : World) (hp : p.In w) (hbp : w.heap[bp]? = some (.cells #[.int .i64 p.ll, .int .i64 p.lh, .int .i64 p.ul, .int .i64 p.uh, .slice p.ea p.es.length p.ec] 26 (0, 0)))   : Calls Tryz.prog 49 #[.pointer (some ⟨bp, 0, none⟩)] w (W2 (lostR p) w) := by
  refine calls_run (fn := f49) (c := (f49.body).getD .skip) [.pointer (some ⟨bp, 0, none⟩)] func49 (by kernel_rfl) (fun _ => False) [] (fun _ h => by cases h) (List.Pairwise.nil) 8 (by kernel_rfl) (by simp) ?_
  refine run_auto [] 2 [] [] [0] [] (st' := ⟨[(0, pA bp)], []⟩) (acc := []) (by kernel_rfl) (by kernel_rfl) trivial ?_
  refine run_new (aO #[iV 0, iV 0] 23) (fun b1 => pA b1) (some 1) (fun _ => by kernel_rfl) (fun b1 hb1 => ?_)
  refine run_auto [] 3 [] [] [0, 1] [0] (st' := ⟨[(0, pA bp), (1, pA b1)], [(b1, aO #[iV 0, iV 0] 23)]⟩) (acc := []) (by kernel_rfl) (by kernel_rfl) trivial ?_
  refine run_v (Instr.loadAt 26 (pA bp) >>= fun v => pure (Next.value v)) (some 2) (.agg #[iV p.ll, iV p.lh, iV p.ul, iV p.uh, .slice p.ea p.es.length p.ec]) (by kernel_rfl) (fun w1 k1 h1 => load_in (base := 0) (off := 0) k1 (fun h => h) [iV p.ll, iV p.lh, iV p.ul, iV p.uh, .slice p.ea p.es.length p.ec] (fun i u hi => by rw [Nat.zero_add]; exact cells_of_heap hbp i u hi) (by kernel_rfl)) ?_
  cases hd1 : p.n.ok with
  | false =>
    exact run_panics rfl (Nat.le_refl _) 43 #[.agg #[iV p.ll, iV p.lh, iV p.ul, iV p.uh, .slice p.ea p.es.length p.ec]] (some 3) (pe 1) (by kernel_rfl) (fun w1 k1 h1 => (by have h := needBlock_any p w1 (hp.keep (k1.keeps (fun _ h => h))); rw [hd1] at h; exact h)) (fun w1 k1 h1 => (by unfold lostR; rw [hd1]; exact ⟨rfl, k1.keeps (fun _ h => h)⟩))
  | true =>
    have hF := Wn.fine hd1
    have hn8 : p.es.length ≤ 8 := hF.n8
    have hu : 0 ≤ p.ul ∧ p.ul ≤ p.uh ∧ p.uh ≤ 3 := hF.u
    refine run_ret1 43 #[.agg #[iV p.ll, iV p.lh, iV p.ul, iV p.uh, .slice p.ea p.es.length p.ec]] (some 3) (.tuple #[]) (by kernel_rfl) (fun w1 k1 h1 => (by have h := needBlock_any p w1 (hp.keep (k1.keeps (fun _ h => h))); rw [hd1] at h; exact h)) ?_
    refine run_auto [] 3 [] [] [0, 1] [0] (st' := ⟨[(0, pA bp), (1, pA b1)], [(b1, aO #[iV 0, iV 0] 23)]⟩) (acc := []) (by kernel_rfl) (by kernel_rfl) trivial ?_
    refine run_v (Instr.loadAt 26 (pA bp) >>= fun v => pure (Next.value v)) (some 4) (.agg #[iV p.ll, iV p.lh, iV p.ul, iV p.uh, .slice p.ea p.es.length p.ec]) (by kernel_rfl) (fun w1 k1 h1 => load_in (base := 0) (off := 0) k1 (fun h => h) [iV p.ll, iV p.lh, iV p.ul, iV p.uh, .slice p.ea p.es.length p.ec] (fun i u hi => by rw [Nat.zero_add]; exact cells_of_heap hbp i u hi) (by kernel_rfl)) ?_
    cases hd2 : p.n.can with
    | false =>
      exact run_panics rfl (Nat.le_refl _) 45 #[.agg #[iV p.ll, iV p.lh, iV p.ul, iV p.uh, .slice p.ea p.es.length p.ec]] (some 5) (pe 10) (by kernel_rfl) (fun w1 k1 h1 => (by have h := needTruth_any p w1 (hp.keep (k1.keeps (fun _ h => h))) hF; unfold Tru at h; rw [hd2] at h; exact h)) (fun w1 k1 h1 => (by unfold lostR; rw [hd1, hd2]; exact ⟨rfl, k1.keeps (fun _ h => h)⟩))
    | true =>
      refine run_ret1 45 #[.agg #[iV p.ll, iV p.lh, iV p.ul, iV p.uh, .slice p.ea p.es.length p.ec]] (some 5) (.agg (rowL 9 (cC p.n)).toArray) (by kernel_rfl) (fun w1 k1 h1 => (by have h := needTruth_any p w1 (hp.keep (k1.keeps (fun _ h => h))) hF; unfold Tru at h; rw [hd2] at h; exact h)) ?_
      refine run_auto [] 3 [] [] [0, 1] [0] (st' := ⟨[(0, pA bp), (1, pA b1)], [(b1, aO #[iV 0, iV 0] 23)]⟩) (acc := []) (by kernel_rfl) (by kernel_rfl) trivial ?_
      refine run_v (Instr.loadAt 26 (pA bp) >>= fun v => pure (Next.value v)) (some 6) (.agg #[iV p.ll, iV p.lh, iV p.ul, iV p.uh, .slice p.ea p.es.length p.ec]) (by kernel_rfl) (fun w1 k1 h1 => load_in (base := 0) (off := 0) k1 (fun h => h) [iV p.ll, iV p.lh, iV p.ul, iV p.uh, .slice p.ea p.es.length p.ec] (fun i u hi => by rw [Nat.zero_add]; exact cells_of_heap hbp i u hi) (by kernel_rfl)) ?_
      refine run_ret1 50 #[.agg #[iV p.ll, iV p.lh, iV p.ul, iV p.uh, .slice p.ea p.es.length p.ec]] (some 7) (.agg #[iV p.n.lost.1, iV p.n.lost.2]) (by kernel_rfl) (fun w1 k1 h1 => lostBy_any p w1 (hp.keep (k1.keeps (fun _ h => h))) hF hd2) ?_
      refine run_auto [] 2 [] [0] [1] [0] (st' := ⟨[(1, pA b1)], [(b1, aO #[iV p.n.lost.1, iV p.n.lost.2] 23)]⟩) (acc := [(pA b1, pA b1)]) (by kernel_rfl) (by kernel_rfl) ⟨rfl, trivial⟩ ?_
      refine run_end (fn := f49) rfl (Nat.le_refl _) (by kernel_rfl) [0] [.agg #[iV p.n.lost.1, iV p.n.lost.2]] (e := [(pA b1, pA b1)]) (by kernel_rfl) ⟨rfl, trivial⟩ (fun w1 k1 h1 => ?_)
      unfold lostR
      rw [hd1, hd2]
      exact ⟨rfl, k1.keeps (fun _ h => h)⟩

set_option maxRecDepth 100000 in
theorem below1_any (p : Wb) (m : Int) (bp b_m : Nat) (w : World) (hp : p.In w) (hbp : w.heap[bp]? = some (.cells #[.int .i64 p.ll, .int .i64 p.lh, .int .i64 p.ul, .int .i64 p.uh, .slice p.ea p.es.length p.ec] 26 (0, 0))) (hb_m : w.heap[b_m]? = some (.cells #[.int .i64 m] 3 (0, 0)))  : Calls Tryz.prog 54 #[.pointer (some ⟨bp, 0, none⟩), .pointer (some ⟨b_m, 0, none⟩)] w (W2 (belowR p m) w) := by
  refine calls_run (fn := f54) (c := (f54.body).getD .skip) [.pointer (some ⟨bp, 0, none⟩), .pointer (some ⟨b_m, 0, none⟩)] func54 (by kernel_rfl) (fun _ => False) [] (fun _ h => by cases h) (List.Pairwise.nil) 23 (by kernel_rfl) (by simp) ?_
  refine run_auto [] 2 [] [] [0, 1] [] (st' := ⟨[(0, pA bp), (1, pA b_m)], []⟩) (acc := []) (by kernel_rfl) (by kernel_rfl) trivial ?_
  refine run_new (aO #[iV 0, iV 0] 88) (fun b1 => pA b1) (some 2) (fun _ => by kernel_rfl) (fun b1 hb1 => ?_)
  refine run_auto [] 3 [] [] [0, 1, 2] [0] (st' := ⟨[(0, pA bp), (1, pA b_m), (2, pA b1)], [(b1, aO #[iV 0, iV 0] 88)]⟩) (acc := []) (by kernel_rfl) (by kernel_rfl) trivial ?_
  refine run_v (Instr.loadAt 26 (pA bp) >>= fun v => pure (Next.value v)) (some 4) (.agg #[iV p.ll, iV p.lh, iV p.ul, iV p.uh, .slice p.ea p.es.length p.ec]) (by kernel_rfl) (fun w1 k1 h1 => load_in (base := 0) (off := 0) k1 (fun h => h) [iV p.ll, iV p.lh, iV p.ul, iV p.uh, .slice p.ea p.es.length p.ec] (fun i u hi => by rw [Nat.zero_add]; exact cells_of_heap hbp i u hi) (by kernel_rfl)) ?_
  cases hd1 : p.n.ok with
  | false =>
    exact run_panics rfl (Nat.le_refl _) 43 #[.agg #[iV p.ll, iV p.lh, iV p.ul, iV p.uh, .slice p.ea p.es.length p.ec]] (some 5) (pe 1) (by kernel_rfl) (fun w1 k1 h1 => (by have h := needBlock_any p w1 (hp.keep (k1.keeps (fun _ h => h))); rw [hd1] at h; exact h)) (fun w1 k1 h1 => (by unfold belowR; rw [hd1]; exact ⟨rfl, k1.keeps (fun _ h => h)⟩))
  | true =>
    have hF := Wn.fine hd1
    have hn8 : p.es.length ≤ 8 := hF.n8
    have hu : 0 ≤ p.ul ∧ p.ul ≤ p.uh ∧ p.uh ≤ 3 := hF.u
    refine run_ret1 43 #[.agg #[iV p.ll, iV p.lh, iV p.ul, iV p.uh, .slice p.ea p.es.length p.ec]] (some 5) (.tuple #[]) (by kernel_rfl) (fun w1 k1 h1 => (by have h := needBlock_any p w1 (hp.keep (k1.keeps (fun _ h => h))); rw [hd1] at h; exact h)) ?_
    refine run_auto [] 3 [] [] [0, 1, 2] [0] (st' := ⟨[(0, pA bp), (1, pA b_m), (2, pA b1)], [(b1, aO #[iV 0, iV 0] 88)]⟩) (acc := []) (by kernel_rfl) (by kernel_rfl) trivial ?_
    refine run_v (Instr.loadAt 3 (pA b_m) >>= fun v => pure (Next.value v)) (some 6) (iV m) (by kernel_rfl) (fun w1 k1 h1 => load_in (base := 0) (off := 0) k1 (fun h => h) [iV m] (fun i u hi => by rw [Nat.zero_add]; exact cells_of_heap hb_m i u hi) (by kernel_rfl)) ?_
    cases hd2 : (spI (m, m) (-1000) 1000) with
    | false =>
      exact run_panics rfl (Nat.le_refl _) 55 #[iV m] (some 7) (pe 2) (by kernel_rfl) (fun w1 k1 h1 => (by have h := needLimit_any m w1; rw [hd2] at h; exact h)) (fun w1 k1 h1 => (by unfold belowR; rw [hd1, hd2]; exact ⟨rfl, k1.keeps (fun _ h => h)⟩))
    | true =>
      refine run_ret1 55 #[iV m] (some 7) (.tuple #[]) (by kernel_rfl) (fun w1 k1 h1 => (by have h := needLimit_any m w1; rw [hd2] at h; exact h)) ?_
      refine run_auto [] 3 [] [] [0, 1, 2] [0] (st' := ⟨[(0, pA bp), (1, pA b_m), (2, pA b1)], [(b1, aO #[iV 0, iV 0] 88)]⟩) (acc := []) (by kernel_rfl) (by kernel_rfl) trivial ?_
      refine run_v (Instr.loadAt 26 (pA bp) >>= fun v => pure (Next.value v)) (some 8) (.agg #[iV p.ll, iV p.lh, iV p.ul, iV p.uh, .slice p.ea p.es.length p.ec]) (by kernel_rfl) (fun w1 k1 h1 => load_in (base := 0) (off := 0) k1 (fun h => h) [iV p.ll, iV p.lh, iV p.ul, iV p.uh, .slice p.ea p.es.length p.ec] (fun i u hi => by rw [Nat.zero_add]; exact cells_of_heap hbp i u hi) (by kernel_rfl)) ?_
      cases hd3 : p.n.can with
      | false =>
        exact run_panics rfl (Nat.le_refl _) 45 #[.agg #[iV p.ll, iV p.lh, iV p.ul, iV p.uh, .slice p.ea p.es.length p.ec]] (some 9) (pe 10) (by kernel_rfl) (fun w1 k1 h1 => (by have h := needTruth_any p w1 (hp.keep (k1.keeps (fun _ h => h))) hF; unfold Tru at h; rw [hd3] at h; exact h)) (fun w1 k1 h1 => (by unfold belowR; rw [hd1, hd2, hd3]; exact ⟨rfl, k1.keeps (fun _ h => h)⟩))
      | true =>
        refine run_ret1 45 #[.agg #[iV p.ll, iV p.lh, iV p.ul, iV p.uh, .slice p.ea p.es.length p.ec]] (some 9) (.agg (rowL 9 (cC p.n)).toArray) (by kernel_rfl) (fun w1 k1 h1 => (by have h := needTruth_any p w1 (hp.keep (k1.keeps (fun _ h => h))) hF; unfold Tru at h; rw [hd3] at h; exact h)) ?_
        refine run_new (aO #[iV 0, iV 0, iV 0, iV 0, iV 0, iV 0, iV 0, iV 0, iV 0, iV 0, iV 0, iV 0, iV 0, iV 0, iV 0, iV 0, iV 0, iV 0] 77) (fun b2 => pA b2) (some 3) (fun _ => by kernel_rfl) (fun b2 hb2 => ?_)
        refine run_auto [] 3 [] [0] [0, 1, 2, 3] [0, 1] (st' := ⟨[(0, pA bp), (1, pA b_m), (2, pA b1), (3, pA b2)], [(b2, cO (rowL 9 (cC p.n)) 77), (b1, aO #[iV 0, iV 0] 88)]⟩) (acc := [(pA b2, pA b2)]) (by kernel_rfl) (by kernel_rfl) ⟨rfl, trivial⟩ ?_
        refine draw 14 [{ val := fun _ => .agg (rowL 9 (cC p.n)).toArray, slots := [3], reads := [0] },
                  { val := fun _ => iV m, slots := [1] },
                  { val := fun _ => .pointer (some ⟨bp, 4, none⟩), slots := [0] },
                  { val := fun _ => .slice p.ea p.es.length p.ec, slots := [12] },
                  { val := fun _ => iV (p.es.length : Int), slots := [13] },
                  { val := fun _ => iV ((belS p.n m p.es.length : Nat) : Int), slots := [10, 11, 14] },
                  { val := fun _ => .agg (rowL 9 (cC p.n)).toArray, slots := [3], reads := [0] },
                  { val := fun _ => iV m, slots := [1] },
                  { val := fun _ => .pointer (some ⟨bp, 4, none⟩), slots := [0] },
                  { val := fun _ => .slice p.ea p.es.length p.ec, slots := [18] },
                  { val := fun _ => iV (p.es.length : Int), slots := [19] },
                  { val := fun _ => iV ((belP p.n m p.es.length : Nat) : Int), slots := [16, 17, 20] },
                  { val := fun _ => .agg #[iV ((belS p.n m p.es.length : Nat) : Int), iV ((belP p.n m p.es.length : Nat) : Int)], slots := [15, 21] },
                  { upd := [(1, fun l => aO #[iV ((belS p.n m p.es.length : Nat) : Int), iV ((belP p.n m p.es.length : Nat) : Int)] 88)], slots := [2, 22], reads := [1] }] [[], [], [], [2], [2, 3], [0, 1, 2, 3, 4], [], [], [], [8], [8, 9], [0, 1, 2, 3, 4, 5, 6, 7, 8, 9, 10], [0, 1, 2, 3, 4, 5, 6, 7, 8, 9, 10, 11], [0, 1, 2, 3, 4, 5, 6, 7, 8, 9, 10, 11, 12]] (by kernel_rfl) (by kernel_rfl) (by kernel_rfl) (by kernel_rfl) [2] [1] (by kernel_rfl)
                  ⟨⟨⟨⟨⟨⟨⟨⟨⟨⟨⟨⟨⟨⟨trivial,
                  tri_quiet (fun β => []) [0] [0] (fun β => [(pA b2, pA b2)]) (by kernel_rfl) (fun β extra => by kernel_rfl) (by kernel_rfl) (fun β => ⟨rfl, trivial⟩)⟩,
                  tri_v (fun β => (Instr.loadAt 3 (pA b_m) >>= fun v => pure (Next.value v))) (by kernel_rfl) (fun β extra => by kernel_rfl) (fun β => by kernel_rfl) (fun β w1 k1 h1 => load_in (base := 0) (off := 0) k1 (fun h => h) [iV m] (fun i u hi => by rw [Nat.zero_add]; exact cells_of_heap hb_m i u hi) (by kernel_rfl))⟩,
                  tri_quiet (fun β => []) [] [] (fun β => []) (by kernel_rfl) (fun β extra => by kernel_rfl) (by kernel_rfl) (fun β => trivial)⟩,
                  tri_v (fun β => (Instr.loadAt 24 (.pointer (some ⟨bp, 4, none⟩)) >>= fun v => pure (Next.value v))) (by kernel_rfl) (fun β extra => by kernel_rfl) (fun β => by kernel_rfl) (fun β w1 k1 h1 => load_in (base := 0) (off := 4) k1 (fun h => h) [iV p.ll, iV p.lh, iV p.ul, iV p.uh, .slice p.ea p.es.length p.ec] (fun i u hi => by rw [Nat.zero_add]; exact cells_of_heap hbp i u hi) (by kernel_rfl))⟩,
                  tri_quiet (fun β => []) [] [] (fun β => []) (by kernel_rfl) (fun β extra => by kernel_rfl) (by kernel_rfl) (fun β => trivial)⟩,
                  tri_call 56 (fun β => #[.agg (rowL 9 (cC p.n)).toArray, iV m, iV (p.es.length : Int), .func (.func 57) #[] #[]]) (by kernel_rfl) (fun β extra => by kernel_rfl) (fun β => by kernel_rfl) (fun β w1 k1 h1 => below_surely p.n m p.es.length w1 (by omega))⟩,
                  tri_quiet (fun β => []) [0] [0] (fun β => [(pA b2, pA b2)]) (by kernel_rfl) (fun β extra => by kernel_rfl) (by kernel_rfl) (fun β => ⟨rfl, trivial⟩)⟩,
                  tri_v (fun β => (Instr.loadAt 3 (pA b_m) >>= fun v => pure (Next.value v))) (by kernel_rfl) (fun β extra => by kernel_rfl) (fun β => by kernel_rfl) (fun β w1 k1 h1 => load_in (base := 0) (off := 0) k1 (fun h => h) [iV m] (fun i u hi => by rw [Nat.zero_add]; exact cells_of_heap hb_m i u hi) (by kernel_rfl))⟩,
                  tri_quiet (fun β => []) [] [] (fun β => []) (by kernel_rfl) (fun β extra => by kernel_rfl) (by kernel_rfl) (fun β => trivial)⟩,
                  tri_v (fun β => (Instr.loadAt 24 (.pointer (some ⟨bp, 4, none⟩)) >>= fun v => pure (Next.value v))) (by kernel_rfl) (fun β extra => by kernel_rfl) (fun β => by kernel_rfl) (fun β w1 k1 h1 => load_in (base := 0) (off := 4) k1 (fun h => h) [iV p.ll, iV p.lh, iV p.ul, iV p.uh, .slice p.ea p.es.length p.ec] (fun i u hi => by rw [Nat.zero_add]; exact cells_of_heap hbp i u hi) (by kernel_rfl))⟩,
                  tri_quiet (fun β => []) [] [] (fun β => []) (by kernel_rfl) (fun β extra => by kernel_rfl) (by kernel_rfl) (fun β => trivial)⟩,
                  tri_call 56 (fun β => #[.agg (rowL 9 (cC p.n)).toArray, iV m, iV (p.es.length : Int), .func (.func 58) #[] #[]]) (by kernel_rfl) (fun β extra => by kernel_rfl) (fun β => by kernel_rfl) (fun β w1 k1 h1 => below_perhaps p.n m p.es.length w1 (by omega))⟩,
                  tri_quiet (fun β => []) [] [] (fun β => []) (by kernel_rfl) (fun β extra => by kernel_rfl) (by kernel_rfl) (fun β => trivial)⟩,
                  tri_quiet (fun β => []) [0] [0] (fun β => [(pA b1, pA b1)]) (by kernel_rfl) (fun β extra => by kernel_rfl) (by kernel_rfl) (fun β => ⟨rfl, trivial⟩)⟩
                  (fun β => ⟨[(2, pA b1)], [(b1, aO #[iV ((belS p.n m p.es.length : Nat) : Int), iV ((belP p.n m p.es.length : Nat) : Int)] 88)]⟩) (fun β => by kernel_rfl) (fun β3 => ?_)
        refine run_end (fn := f54) rfl (Nat.le_refl _) (by kernel_rfl) [0] [.agg #[iV ((belS p.n m p.es.length : Nat) : Int), iV ((belP p.n m p.es.length : Nat) : Int)]] (e := [(pA b1, pA b1)]) (by kernel_rfl) ⟨rfl, trivial⟩ (fun w1 k1 h1 => ?_)
        unfold belowR
        rw [hd1, hd2, hd3]
        exact ⟨rfl, k1.keeps (fun _ h => h)⟩

set_option maxRecDepth 100000 in
theorem fits1_any (p : Wb) (s : Sp) (bp b_s : Nat) (w : World) (hp : p.In w) (hbp : w.heap[bp]? = some (.cells #[.int .i64 p.ll, .int .i64 p.lh, .int .i64 p.ul, .int .i64 p.uh, .slice p.ea p.es.length p.ec] 26 (0, 0))) (hb_s : w.heap[b_s]? = some (.cells #[.int .i64 s.1, .int .i64 s.2] 23 (0, 0)))  : Calls Tryz.prog 62 #[.pointer (some ⟨bp, 0, none⟩), .pointer (some ⟨b_s, 0, none⟩)] w (W1 (fitsR p s) w) := by
  refine calls_run (fn := f62) (c := (f62.body).getD .skip) [.pointer (some ⟨bp, 0, none⟩), .pointer (some ⟨b_s, 0, none⟩)] func62 (by kernel_rfl) (fun _ => False) [] (fun _ h => by cases h) (List.Pairwise.nil) 16 (by kernel_rfl) (by simp) ?_
  refine run_auto [] 6 [] [] [0, 1, 2] [] (st' := ⟨[(0, pA bp), (1, pA b_s), (2, iV 0)], []⟩) (acc := []) (by kernel_rfl) (by kernel_rfl) trivial ?_
  refine run_v (Instr.loadAt 26 (pA bp) >>= fun v => pure (Next.value v)) (some 4) (.agg #[iV p.ll, iV p.lh, iV p.ul, iV p.uh, .slice p.ea p.es.length p.ec]) (by kernel_rfl) (fun w1 k1 h1 => load_in (base := 0) (off := 0) k1 (fun h => h) [iV p.ll, iV p.lh, iV p.ul, iV p.uh, .slice p.ea p.es.length p.ec] (fun i u hi => by rw [Nat.zero_add]; exact cells_of_heap hbp i u hi) (by kernel_rfl)) ?_
  cases hd1 : p.n.ok with
  | false =>
    exact run_panics rfl (Nat.le_refl _) 43 #[.agg #[iV p.ll, iV p.lh, iV p.ul, iV p.uh, .slice p.ea p.es.length p.ec]] (some 5) (pe 1) (by kernel_rfl) (fun w1 k1 h1 => (by have h := needBlock_any p w1 (hp.keep (k1.keeps (fun _ h => h))); rw [hd1] at h; exact h)) (fun w1 k1 h1 => (by unfold fitsR; rw [hd1]; exact ⟨rfl, k1.keeps (fun _ h => h)⟩))
  | true =>
    have hF := Wn.fine hd1
    have hn8 : p.es.length ≤ 8 := hF.n8
    have hu : 0 ≤ p.ul ∧ p.ul ≤ p.uh ∧ p.uh ≤ 3 := hF.u
    refine run_ret1 43 #[.agg #[iV p.ll, iV p.lh, iV p.ul, iV p.uh, .slice p.ea p.es.length p.ec]] (some 5) (.tuple #[]) (by kernel_rfl) (fun w1 k1 h1 => (by have h := needBlock_any p w1 (hp.keep (k1.keeps (fun _ h => h))); rw [hd1] at h; exact h)) ?_
    refine run_auto [] 3 [] [] [0, 1, 2] [] (st' := ⟨[(0, pA bp), (1, pA b_s), (2, iV 0)], []⟩) (acc := []) (by kernel_rfl) (by kernel_rfl) trivial ?_
    refine run_v (Instr.loadAt 23 (pA b_s) >>= fun v => pure (Next.value v)) (some 6) (.agg #[iV s.1, iV s.2]) (by kernel_rfl) (fun w1 k1 h1 => load_in (base := 0) (off := 0) k1 (fun h => h) [iV s.1, iV s.2] (fun i u hi => by rw [Nat.zero_add]; exact cells_of_heap hb_s i u hi) (by kernel_rfl)) ?_
    cases hd2 : (spI s (-1000) 1000) with
    | false =>
      exact run_panics rfl (Nat.le_refl _) 63 #[.agg #[iV s.1, iV s.2]] (some 7) (pe 2) (by kernel_rfl) (fun w1 k1 h1 => (by have h := needShows_any s.1 s.2 w1; rw [hd2] at h; exact h)) (fun w1 k1 h1 => (by unfold fitsR; rw [hd1, hd2]; exact ⟨rfl, k1.keeps (fun _ h => h)⟩))
    | true =>
      refine run_ret1 63 #[.agg #[iV s.1, iV s.2]] (some 7) (.tuple #[]) (by kernel_rfl) (fun w1 k1 h1 => (by have h := needShows_any s.1 s.2 w1; rw [hd2] at h; exact h)) ?_
      refine run_auto [] 3 [] [] [0, 1, 2] [] (st' := ⟨[(0, pA bp), (1, pA b_s), (2, iV 0)], []⟩) (acc := []) (by kernel_rfl) (by kernel_rfl) trivial ?_
      refine run_v (Instr.loadAt 26 (pA bp) >>= fun v => pure (Next.value v)) (some 8) (.agg #[iV p.ll, iV p.lh, iV p.ul, iV p.uh, .slice p.ea p.es.length p.ec]) (by kernel_rfl) (fun w1 k1 h1 => load_in (base := 0) (off := 0) k1 (fun h => h) [iV p.ll, iV p.lh, iV p.ul, iV p.uh, .slice p.ea p.es.length p.ec] (fun i u hi => by rw [Nat.zero_add]; exact cells_of_heap hbp i u hi) (by kernel_rfl)) ?_
      cases hd3 : p.n.can with
      | false =>
        exact run_panics rfl (Nat.le_refl _) 64 #[.agg #[iV p.ll, iV p.lh, iV p.ul, iV p.uh, .slice p.ea p.es.length p.ec]] (some 9) (pe 10) (by kernel_rfl) (fun w1 k1 h1 => (by have h := lastOf_any p w1 (hp.keep (k1.keeps (fun _ h => h))) hF; unfold Tru at h; rw [hd3] at h; exact h)) (fun w1 k1 h1 => (by unfold fitsR; rw [hd1, hd2, hd3]; exact ⟨rfl, k1.keeps (fun _ h => h)⟩))
      | true =>
        refine run_ret1 64 #[.agg #[iV p.ll, iV p.lh, iV p.ul, iV p.uh, .slice p.ea p.es.length p.ec]] (some 9) (.agg #[iV (mC p.n p.es.length).1, iV (mC p.n p.es.length).2]) (by kernel_rfl) (fun w1 k1 h1 => (by have h := lastOf_any p w1 (hp.keep (k1.keeps (fun _ h => h))) hF; unfold Tru at h; rw [hd3] at h; exact h)) ?_
        refine run_new (aO #[iV 0, iV 0] 75) (fun b1 => pA b1) (some 3) (fun _ => by kernel_rfl) (fun b1 hb1 => ?_)
        refine run_auto [] 4 [] [0] [1, 2, 3] [0] (st' := ⟨[(1, pA b_s), (2, iV 0), (3, pA b1)], [(b1, aO #[iV (mC p.n p.es.length).1, iV (mC p.n p.es.length).2] 75)]⟩) (acc := [(pA b1, pA b1)]) (by kernel_rfl) (by kernel_rfl) ⟨rfl, trivial⟩ ?_
        refine run_v (Instr.loadAt 23 (pA b_s) >>= fun v => pure (Next.value v)) (some 10) (.agg #[iV s.1, iV s.2]) (by kernel_rfl) (fun w1 k1 h1 => load_in (base := 0) (off := 0) k1 (fun h => h) [iV s.1, iV s.2] (fun i u hi => by rw [Nat.zero_add]; exact cells_of_heap hb_s i u hi) (by kernel_rfl)) ?_
        refine run_auto [] 4 [] [0, 0] [2, 10, 12, 14] [] (st' := ⟨[(2, iV 0), (10, .agg #[iV s.1, iV s.2]), (12, .func (.func 66) #[.agg #[iV (mC p.n p.es.length).1, iV (mC p.n p.es.length).2]] #[]), (14, .func (.func 67) #[.agg #[iV (mC p.n p.es.length).1, iV (mC p.n p.es.length).2]] #[])], []⟩) (acc := [(pA b1, pA b1), (pA b1, pA b1)]) (by kernel_rfl) (by kernel_rfl) ⟨rfl, rfl, trivial⟩ ?_
        refine run_ret1 65 #[.agg #[iV s.1, iV s.2], .func (.func 66) #[.agg #[iV (mC p.n p.es.length).1, iV (mC p.n p.es.length).2]] #[], .func (.func 67) #[.agg #[iV (mC p.n p.es.length).1, iV (mC p.n p.es.length).2]] #[]] (some 15) (iV (judV (mC p.n p.es.length) s)) (by kernel_rfl) (fun w1 k1 h1 => judge_any (mC p.n p.es.length).1 (mC p.n p.es.length).2 s.1 s.2 w1) ?_
        refine run_auto [] 2 [] [] [2] [] (st' := ⟨[(2, iV (judV (mC p.n p.es.length) s))], []⟩) (acc := []) (by kernel_rfl) (by kernel_rfl) trivial ?_
        refine run_end (fn := f62) rfl (Nat.le_refl _) (by kernel_rfl) [] [iV (judV (mC p.n p.es.length) s)] (e := []) (by kernel_rfl) trivial (fun w1 k1 h1 => ?_)
        unfold fitsR
        rw [hd1, hd2, hd3]
        exact ⟨rfl, k1.keeps (fun _ h => h)⟩


theorem use_bd {u1 u2 n : Int} (h0 : 0 ≤ u1) (h1 : u1 ≤ u2) (h2 : u2 ≤ 3) (n0 : 0 ≤ n) (n1 : n ≤ 200) : (0 ≤ n * u1 ∧ n * u1 ≤ 600) ∧ 0 ≤ n * u2 ∧ n * u2 ≤ 600 := by
  have a1 := Int.mul_nonneg n0 h0
  have a2 := Int.mul_nonneg n0 (Int.le_trans h0 h1)
  have a3 : n * u2 ≤ n * 3 := Int.mul_le_mul_of_nonneg_left h2 n0
  have a4 : n * u1 ≤ n * u2 := Int.mul_le_mul_of_nonneg_left h1 n0
  omega
theorem last_bd {p : Wb} (h : p.n.Fine) : bdS (mC p.n p.es.length) 2000 := by
  rw [mC_le p.n (show p.es.length ≤ p.n.es.length from Nat.le_refl _)]
  exact h.B_bd (show p.es.length ≤ p.n.es.length from Nat.le_refl _)
set_option maxRecDepth 100000 in
theorem until11_any (p : Wb) (x : Sp) (n m : Int) (bx bp b_m : Nat) (w : World) (hbx : w.heap[bx]? = some (.cells #[.int .i64 x.1, .int .i64 x.2] 75 (0, 0))) (hbp : w.heap[bp]? = some (.cells #[.int .i64 p.ll, .int .i64 p.lh, .int .i64 p.ul, .int .i64 p.uh, .slice p.ea p.es.length p.ec] 26 (0, 0))) (hb_m : w.heap[b_m]? = some (.cells #[.int .i64 m] 3 (0, 0))) (hu : 0 ≤ p.ul ∧ p.ul ≤ p.uh ∧ p.uh ≤ 3) (hx : bdS x 2000) (n0 : 0 ≤ n) (n1 : n ≤ 200) : Calls Tryz.prog 73 #[.int .i64 n, .pointer (some ⟨bx, 0, none⟩), .pointer (some ⟨bp, 0, none⟩), .pointer (some ⟨b_m, 0, none⟩)] w (RetB (!tooF x (p.ul, p.uh) m n) w) := by
  obtain ⟨⟨m1, m2⟩, m3, m4⟩ := use_bd hu.1 hu.2.1 hu.2.2 n0 n1
  unfold bdS at hx
  refine calls_run (fn := f73) (c := (f73.body).getD .skip) [.int .i64 n, .pointer (some ⟨bx, 0, none⟩), .pointer (some ⟨bp, 0, none⟩), .pointer (some ⟨b_m, 0, none⟩)] func73 (by kernel_rfl) (fun _ => False) [] (fun _ h => by cases h) (List.Pairwise.nil) 14 (by kernel_rfl) (by simp) ?_
  refine run_auto [] 5 [] [] [0, 1, 2, 3, 5] [] (st' := ⟨[(0, iV n), (1, pA bx), (2, pA bp), (3, pA b_m), (5, .bool false)], []⟩) (acc := []) (by kernel_rfl) (by kernel_rfl) trivial ?_
  cases hd1 : (decide (((movS x (negS (manS n (p.ul, p.uh)))).1) < m)) with
  | false =>
    have hp1 := of_decide_eq_false hd1
    refine draw 9 [{ val := fun _ => .agg #[iV x.1, iV x.2], slots := [1] },
          { val := fun _ => .pointer (some ⟨bp, 2, none⟩), slots := [2] },
          { val := fun _ => .agg #[iV p.ul, iV p.uh], slots := [7] },
          { val := fun _ => iV n, slots := [0] },
          { val := fun _ => .agg #[iV ((movS x (negS (manS n (p.ul, p.uh)))).1), iV ((movS x (negS (manS n (p.ul, p.uh)))).2)], slots := [6, 8, 9] },
          { val := fun _ => iV m, slots := [3] },
          { val := fun _ => .bool false, slots := [10, 11] },
          { val := fun _ => .bool true, slots := [12] },
          { val := fun _ => .bool true, slots := [13] }] [[], [], [1], [], [0, 1, 2, 3], [], [0, 1, 2, 3, 4, 5], [0, 1, 2, 3, 4, 5, 6], [0, 1, 2, 3, 4, 5, 6, 7]] (by kernel_rfl) (by kernel_rfl) (by kernel_rfl) (by kernel_rfl) [5] [] (by kernel_rfl)
          ⟨⟨⟨⟨⟨⟨⟨⟨⟨trivial,
          tri_v (fun β => (Instr.loadAt 75 (pA bx) >>= fun v => pure (Next.value v))) (by kernel_rfl) (fun β extra => by kernel_rfl) (fun β => by kernel_rfl) (fun β w1 k1 h1 => load_in (base := 0) (off := 0) k1 (fun h => h) [iV x.1, iV x.2] (fun i u hi => by rw [Nat.zero_add]; exact cells_of_heap hbx i u hi) (by kernel_rfl))⟩,
          tri_quiet (fun β => []) [] [] (fun β => []) (by kernel_rfl) (fun β extra => by kernel_rfl) (by kernel_rfl) (fun β => trivial)⟩,
          tri_v (fun β => (Instr.loadAt 23 (.pointer (some ⟨bp, 2, none⟩)) >>= fun v => pure (Next.value v))) (by kernel_rfl) (fun β extra => by kernel_rfl) (fun β => by kernel_rfl) (fun β w1 k1 h1 => load_in (base := 0) (off := 2) k1 (fun h => h) [iV p.ll, iV p.lh, iV p.ul, iV p.uh, .slice p.ea p.es.length p.ec] (fun i u hi => by rw [Nat.zero_add]; exact cells_of_heap hbp i u hi) (by kernel_rfl))⟩,
          tri_quiet (fun β => []) [] [] (fun β => []) (by kernel_rfl) (fun β extra => by kernel_rfl) (by kernel_rfl) (fun β => trivial)⟩,
          tri_call 74 (fun β => #[.agg #[iV x.1, iV x.2], .agg #[iV p.ul, iV p.uh], iV n]) (by kernel_rfl) (fun β extra => by kernel_rfl) (fun β => by kernel_rfl) (fun β w1 k1 h1 => worn_any x.1 x.2 p.ul p.uh n (by omega) (by omega) (by omega) (by omega) (by omega) (by omega) (by omega) (by omega) w1)⟩,
          tri_v (fun β => (Instr.loadAt 3 (pA b_m) >>= fun v => pure (Next.value v))) (by kernel_rfl) (fun β extra => by kernel_rfl) (fun β => by kernel_rfl) (fun β w1 k1 h1 => load_in (base := 0) (off := 0) k1 (fun h => h) [iV m] (fun i u hi => by rw [Nat.zero_add]; exact cells_of_heap hb_m i u hi) (by kernel_rfl))⟩,
          tri_call 58 (fun β => #[.agg #[iV ((movS x (negS (manS n (p.ul, p.uh)))).1), iV ((movS x (negS (manS n (p.ul, p.uh)))).2)], iV m]) (by kernel_rfl) (fun β extra => by kernel_rfl) (fun β => by kernel_rfl) (fun β w1 k1 h1 => (by have h := pbelow_any ((movS x (negS (manS n (p.ul, p.uh)))).1) ((movS x (negS (manS n (p.ul, p.uh)))).2) m w1; rw [hd1] at h; exact h))⟩,
          tri_quiet (fun β => [(13, .bool true)]) [] [] (fun β => [(.bool true, .bool true)]) (by kernel_rfl) (fun β extra => by kernel_rfl) (by kernel_rfl) (fun β => ⟨rfl, trivial⟩)⟩,
          tri_quiet (fun β => []) [] [] (fun β => []) (by kernel_rfl) (fun β extra => by kernel_rfl) (by kernel_rfl) (fun β => trivial)⟩
          (fun β => ⟨[(5, .bool true)], []⟩) (fun β => by kernel_rfl) (fun β1 => ?_)
    refine run_end (fn := f73) rfl (Nat.le_refl _) (by kernel_rfl) [] [.bool true] (e := []) (by kernel_rfl) trivial (fun w1 k1 h1 => ?_)
    exact ⟨by unfold tooF; rw [show decide _ = false from hd1]; rfl, k1.keeps (fun _ h => h)⟩
  | true =>
    have hp1 := of_decide_eq_true hd1
    refine draw 9 [{ val := fun _ => .agg #[iV x.1, iV x.2], slots := [1] },
          { val := fun _ => .pointer (some ⟨bp, 2, none⟩), slots := [2] },
          { val := fun _ => .agg #[iV p.ul, iV p.uh], slots := [7] },
          { val := fun _ => iV n, slots := [0] },
          { val := fun _ => .agg #[iV ((movS x (negS (manS n (p.ul, p.uh)))).1), iV ((movS x (negS (manS n (p.ul, p.uh)))).2)], slots := [6, 8, 9] },
          { val := fun _ => iV m, slots := [3] },
          { val := fun _ => .bool true, slots := [10, 11] },
          { val := fun _ => .bool false, slots := [12] },
          { val := fun _ => .bool false, slots := [13] }] [[], [], [1], [], [0, 1, 2, 3], [], [0, 1, 2, 3, 4, 5], [0, 1, 2, 3, 4, 5, 6], [0, 1, 2, 3, 4, 5, 6, 7]] (by kernel_rfl) (by kernel_rfl) (by kernel_rfl) (by kernel_rfl) [5] [] (by kernel_rfl)
          ⟨⟨⟨⟨⟨⟨⟨⟨⟨trivial,
          tri_v (fun β => (Instr.loadAt 75 (pA bx) >>= fun v => pure (Next.value v))) (by kernel_rfl) (fun β extra => by kernel_rfl) (fun β => by kernel_rfl) (fun β w1 k1 h1 => load_in (base := 0) (off := 0) k1 (fun h => h) [iV x.1, iV x.2] (fun i u hi => by rw [Nat.zero_add]; exact cells_of_heap hbx i u hi) (by kernel_rfl))⟩,
          tri_quiet (fun β => []) [] [] (fun β => []) (by kernel_rfl) (fun β extra => by kernel_rfl) (by kernel_rfl) (fun β => trivial)⟩,
          tri_v (fun β => (Instr.loadAt 23 (.pointer (some ⟨bp, 2, none⟩)) >>= fun v => pure (Next.value v))) (by kernel_rfl) (fun β extra => by kernel_rfl) (fun β => by kernel_rfl) (fun β w1 k1 h1 => load_in (base := 0) (off := 2) k1 (fun h => h) [iV p.ll, iV p.lh, iV p.ul, iV p.uh, .slice p.ea p.es.length p.ec] (fun i u hi => by rw [Nat.zero_add]; exact cells_of_heap hbp i u hi) (by kernel_rfl))⟩,
          tri_quiet (fun β => []) [] [] (fun β => []) (by kernel_rfl) (fun β extra => by kernel_rfl) (by kernel_rfl) (fun β => trivial)⟩,
          tri_call 74 (fun β => #[.agg #[iV x.1, iV x.2], .agg #[iV p.ul, iV p.uh], iV n]) (by kernel_rfl) (fun β extra => by kernel_rfl) (fun β => by kernel_rfl) (fun β w1 k1 h1 => worn_any x.1 x.2 p.ul p.uh n (by omega) (by omega) (by omega) (by omega) (by omega) (by omega) (by omega) (by omega) w1)⟩,
          tri_v (fun β => (Instr.loadAt 3 (pA b_m) >>= fun v => pure (Next.value v))) (by kernel_rfl) (fun β extra => by kernel_rfl) (fun β => by kernel_rfl) (fun β w1 k1 h1 => load_in (base := 0) (off := 0) k1 (fun h => h) [iV m] (fun i u hi => by rw [Nat.zero_add]; exact cells_of_heap hb_m i u hi) (by kernel_rfl))⟩,
          tri_call 58 (fun β => #[.agg #[iV ((movS x (negS (manS n (p.ul, p.uh)))).1), iV ((movS x (negS (manS n (p.ul, p.uh)))).2)], iV m]) (by kernel_rfl) (fun β extra => by kernel_rfl) (fun β => by kernel_rfl) (fun β w1 k1 h1 => (by have h := pbelow_any ((movS x (negS (manS n (p.ul, p.uh)))).1) ((movS x (negS (manS n (p.ul, p.uh)))).2) m w1; rw [hd1] at h; exact h))⟩,
          tri_quiet (fun β => [(13, .bool false)]) [] [] (fun β => [(.bool false, .bool false)]) (by kernel_rfl) (fun β extra => by kernel_rfl) (by kernel_rfl) (fun β => ⟨rfl, trivial⟩)⟩,
          tri_quiet (fun β => []) [] [] (fun β => []) (by kernel_rfl) (fun β extra => by kernel_rfl) (by kernel_rfl) (fun β => trivial)⟩
          (fun β => ⟨[(5, .bool false)], []⟩) (fun β => by kernel_rfl) (fun β1 => ?_)
    refine run_end (fn := f73) rfl (Nat.le_refl _) (by kernel_rfl) [] [.bool false] (e := []) (by kernel_rfl) trivial (fun w1 k1 h1 => ?_)
    exact ⟨by unfold tooF; rw [show decide _ = true from hd1]; rfl, k1.keeps (fun _ h => h)⟩

set_option maxRecDepth 100000 in
theorem until1_any (p : Wb) (m : Int) (bp b_m : Nat) (w : World) (hp : p.In w) (hbp : w.heap[bp]? = some (.cells #[.int .i64 p.ll, .int .i64 p.lh, .int .i64 p.ul, .int .i64 p.uh, .slice p.ea p.es.length p.ec] 26 (0, 0))) (hb_m : w.heap[b_m]? = some (.cells #[.int .i64 m] 3 (0, 0)))  : Calls Tryz.prog 69 #[.pointer (some ⟨bp, 0, none⟩), .pointer (some ⟨b_m, 0, none⟩)] w (W1 (untilR p m) w) := by
  refine calls_run (fn := f69) (c := (f69.body).getD .skip) [.pointer (some ⟨bp, 0, none⟩), .pointer (some ⟨b_m, 0, none⟩)] func69 (by kernel_rfl) (fun _ => False) [] (fun _ h => by cases h) (List.Pairwise.nil) 17 (by kernel_rfl) (by simp) ?_
  refine run_auto [] 6 [] [] [0, 1, 2] [] (st' := ⟨[(0, pA bp), (1, pA b_m), (2, iV 0)], []⟩) (acc := []) (by kernel_rfl) (by kernel_rfl) trivial ?_
  refine run_v (Instr.loadAt 26 (pA bp) >>= fun v => pure (Next.value v)) (some 4) (.agg #[iV p.ll, iV p.lh, iV p.ul, iV p.uh, .slice p.ea p.es.length p.ec]) (by kernel_rfl) (fun w1 k1 h1 => load_in (base := 0) (off := 0) k1 (fun h => h) [iV p.ll, iV p.lh, iV p.ul, iV p.uh, .slice p.ea p.es.length p.ec] (fun i u hi => by rw [Nat.zero_add]; exact cells_of_heap hbp i u hi) (by kernel_rfl)) ?_
  cases hd1 : p.n.ok with
  | false =>
    exact run_panics rfl (Nat.le_refl _) 43 #[.agg #[iV p.ll, iV p.lh, iV p.ul, iV p.uh, .slice p.ea p.es.length p.ec]] (some 5) (pe 1) (by kernel_rfl) (fun w1 k1 h1 => (by have h := needBlock_any p w1 (hp.keep (k1.keeps (fun _ h => h))); rw [hd1] at h; exact h)) (fun w1 k1 h1 => (by unfold untilR; rw [hd1]; exact ⟨rfl, k1.keeps (fun _ h => h)⟩))
  | true =>
    have hF := Wn.fine hd1
    have hn8 : p.es.length ≤ 8 := hF.n8
    have hu : 0 ≤ p.ul ∧ p.ul ≤ p.uh ∧ p.uh ≤ 3 := hF.u
    refine run_ret1 43 #[.agg #[iV p.ll, iV p.lh, iV p.ul, iV p.uh, .slice p.ea p.es.length p.ec]] (some 5) (.tuple #[]) (by kernel_rfl) (fun w1 k1 h1 => (by have h := needBlock_any p w1 (hp.keep (k1.keeps (fun _ h => h))); rw [hd1] at h; exact h)) ?_
    refine run_auto [] 3 [] [] [0, 1, 2] [] (st' := ⟨[(0, pA bp), (1, pA b_m), (2, iV 0)], []⟩) (acc := []) (by kernel_rfl) (by kernel_rfl) trivial ?_
    refine run_v (Instr.loadAt 3 (pA b_m) >>= fun v => pure (Next.value v)) (some 6) (iV m) (by kernel_rfl) (fun w1 k1 h1 => load_in (base := 0) (off := 0) k1 (fun h => h) [iV m] (fun i u hi => by rw [Nat.zero_add]; exact cells_of_heap hb_m i u hi) (by kernel_rfl)) ?_
    cases hd2 : (spI (m, m) (-1000) 1000) with
    | false =>
      exact run_panics rfl (Nat.le_refl _) 55 #[iV m] (some 7) (pe 2) (by kernel_rfl) (fun w1 k1 h1 => (by have h := needLimit_any m w1; rw [hd2] at h; exact h)) (fun w1 k1 h1 => (by unfold untilR; rw [hd1, hd2]; exact ⟨rfl, k1.keeps (fun _ h => h)⟩))
    | true =>
      refine run_ret1 55 #[iV m] (some 7) (.tuple #[]) (by kernel_rfl) (fun w1 k1 h1 => (by have h := needLimit_any m w1; rw [hd2] at h; exact h)) ?_
      refine run_auto [] 3 [] [] [0, 1, 2] [] (st' := ⟨[(0, pA bp), (1, pA b_m), (2, iV 0)], []⟩) (acc := []) (by kernel_rfl) (by kernel_rfl) trivial ?_
      refine run_v (Instr.loadAt 26 (pA bp) >>= fun v => pure (Next.value v)) (some 8) (.agg #[iV p.ll, iV p.lh, iV p.ul, iV p.uh, .slice p.ea p.es.length p.ec]) (by kernel_rfl) (fun w1 k1 h1 => load_in (base := 0) (off := 0) k1 (fun h => h) [iV p.ll, iV p.lh, iV p.ul, iV p.uh, .slice p.ea p.es.length p.ec] (fun i u hi => by rw [Nat.zero_add]; exact cells_of_heap hbp i u hi) (by kernel_rfl)) ?_
      cases hd3 : p.n.can with
      | false =>
        exact run_panics rfl (Nat.le_refl _) 64 #[.agg #[iV p.ll, iV p.lh, iV p.ul, iV p.uh, .slice p.ea p.es.length p.ec]] (some 9) (pe 10) (by kernel_rfl) (fun w1 k1 h1 => (by have h := lastOf_any p w1 (hp.keep (k1.keeps (fun _ h => h))) hF; unfold Tru at h; rw [hd3] at h; exact h)) (fun w1 k1 h1 => (by unfold untilR; rw [hd1, hd2, hd3]; exact ⟨rfl, k1.keeps (fun _ h => h)⟩))
      | true =>
        refine run_ret1 64 #[.agg #[iV p.ll, iV p.lh, iV p.ul, iV p.uh, .slice p.ea p.es.length p.ec]] (some 9) (.agg #[iV (mC p.n p.es.length).1, iV (mC p.n p.es.length).2]) (by kernel_rfl) (fun w1 k1 h1 => (by have h := lastOf_any p w1 (hp.keep (k1.keeps (fun _ h => h))) hF; unfold Tru at h; rw [hd3] at h; exact h)) ?_
        refine run_new (aO #[iV 0, iV 0] 75) (fun b1 => pA b1) (some 3) (fun _ => by kernel_rfl) (fun b1 hb1 => ?_)
        refine run_auto [] 4 [] [0] [0, 1, 2, 3] [0] (st' := ⟨[(0, pA bp), (1, pA b_m), (2, iV 0), (3, pA b1)], [(b1, aO #[iV (mC p.n p.es.length).1, iV (mC p.n p.es.length).2] 75)]⟩) (acc := [(pA b1, pA b1)]) (by kernel_rfl) (by kernel_rfl) ⟨rfl, trivial⟩ ?_
        refine run_nw 72 #[iV 100] (some 10) (α := Unit) (fun _u b2 => .func (.func 112) #[] #[pA b2]) (fun _u => aO #[iV 100] 3) (fun _u => True) (by kernel_rfl) (fun _ => rfl) (fun w1 k1 h1 => downFrom_any 100 w1) (fun _u b2 hIb2 hb2 => ?_)
        refine run_auto [] 2 [] [] [2, 12] [0, 1] (st' := ⟨[(2, iV 0), (12, .agg #[.func (.func 112) #[] #[pA b2], .func (.func 73) #[] #[pA b1, pA bp, pA b_m]])], [(b2, aO #[iV 100] 3), (b1, aO #[iV (mC p.n p.es.length).1, iV (mC p.n p.es.length).2] 75)]⟩) (acc := []) (by kernel_rfl) (by kernel_rfl) trivial ?_
        refine run_ret1 71 #[.agg #[.func (.func 112) #[] #[pA b2], .func (.func 73) #[] #[pA b1, pA bp, pA b_m]]] (some 13) (.tuple #[iV (fnV (dnN 100) (frN (untF p m) 101)), .bool ((frN (untF p m) 101).isSome)]) (by kernel_rfl) (fun w1 k1 h1 => firstUntil_any 100 b2 (untF p m) b1 bp b_m w1 (by omega) (h1 (b2, aO #[iV 100] 3) (List.mem_of_getElem? (i := 0) (by kernel_rfl))) (fun i hi w2 kk => until11_any p (mC p.n p.es.length) (dnN 100 i) m b1 bp b_m w2 ((kk.heap (Array.getElem?_eq_some_iff.1 (h1 (b1, aO #[iV (mC p.n p.es.length).1, iV (mC p.n p.es.length).2] 75) (List.mem_of_getElem? (i := 1) (by kernel_rfl)))).1).trans (h1 (b1, aO #[iV (mC p.n p.es.length).1, iV (mC p.n p.es.length).2] 75) (List.mem_of_getElem? (i := 1) (by kernel_rfl)))) ((kk.heap (Array.getElem?_eq_some_iff.1 ((k1.block _ (Array.getElem?_eq_some_iff.1 hbp).1 (fun h => h)).trans hbp)).1).trans ((k1.block _ (Array.getElem?_eq_some_iff.1 hbp).1 (fun h => h)).trans hbp)) ((kk.heap (Array.getElem?_eq_some_iff.1 ((k1.block _ (Array.getElem?_eq_some_iff.1 hb_m).1 (fun h => h)).trans hb_m)).1).trans ((k1.block _ (Array.getElem?_eq_some_iff.1 hb_m).1 (fun h => h)).trans hb_m)) hu (last_bd hF) (by unfold dnN; omega) (by unfold dnN; omega))) ?_
        cases hd4 : ((frN (untF p m) 101).isSome) with
        | false =>
          refine run_auto [] 2 [] [] [2, 14, 15] [] (st' := ⟨[(2, iV 0), (14, iV (fnV (dnN 100) (frN (untF p m) 101))), (15, .bool false)], []⟩) (acc := []) (by kernel_rfl) (by kernel_rfl) trivial ?_
          exact run_panics rfl (Nat.le_refl _) 70 #[iV (fnV (dnN 100) (frN (untF p m) 101)), .bool false] (some 16) (pe 4) (by kernel_rfl) (fun w1 k1 h1 => (by have h := needFound_any (fnV (dnN 100) (frN (untF p m) 101)) false w1; unfold Fnd at h; exact h)) (fun w1 k1 h1 => (by unfold untilR; rw [hd1, hd2, hd3, hd4]; exact ⟨rfl, k1.keeps (fun _ h => h)⟩))
        | true =>
          refine run_auto [] 2 [] [] [2, 14, 15] [] (st' := ⟨[(2, iV 0), (14, iV (fnV (dnN 100) (frN (untF p m) 101))), (15, .bool true)], []⟩) (acc := []) (by kernel_rfl) (by kernel_rfl) trivial ?_
          refine run_ret1 70 #[iV (fnV (dnN 100) (frN (untF p m) 101)), .bool true] (some 16) (iV (fnV (dnN 100) (frN (untF p m) 101))) (by kernel_rfl) (fun w1 k1 h1 => (by have h := needFound_any (fnV (dnN 100) (frN (untF p m) 101)) true w1; unfold Fnd at h; exact h)) ?_
          refine run_auto [] 2 [] [] [2] [] (st' := ⟨[(2, iV (fnV (dnN 100) (frN (untF p m) 101)))], []⟩) (acc := []) (by kernel_rfl) (by kernel_rfl) trivial ?_
          refine run_end (fn := f69) rfl (Nat.le_refl _) (by kernel_rfl) [] [iV (fnV (dnN 100) (frN (untF p m) 101))] (e := []) (by kernel_rfl) trivial (fun w1 k1 h1 => ?_)
          unfold untilR
          rw [hd1, hd2, hd3, hd4]
          exact ⟨rfl, k1.keeps (fun _ h => h)⟩

end Go.Proofs.YtdehgplklgfcdaaGreat

namespace Go.Proofs.YtdehgplklgfcdaaGreat
open Go.RowKit Go.Proofs.Tryz


theorem allI_no {α : Type} {p : α → Bool} {l : List α} {k : Nat} {d : α} (hk : k < l.length) (h : p (l[k]?.getD d) = false) : l.all p = false := by
  rw [List.all_eq_false]
  refine ⟨l[k], List.getElem_mem hk, ?_⟩
  rw [List.getElem?_eq_getElem hk] at h
  simpa using h
theorem allI_yes {α : Type} {p : α → Bool} {l : List α} {d : α} (h : ∀ k, k < l.length → p (l[k]?.getD d) = true) : l.all p = true := by
  rw [List.all_eq_true]
  intro x hx
  obtain ⟨k, hk, rfl⟩ := List.getElem_of_mem hx
  have := h k hk
  rwa [List.getElem?_eq_getElem hk] at this

theorem sumI_next {L : List Int} {i : Nat} (h : i < L.length) : sumI (L.take (i + 1)) = sumI (L.take i) + elI L i := by
  unfold sumI elI
  rw [List.take_succ_eq_append_getElem h, List.foldl_append, List.getElem?_eq_getElem h]
  rfl
theorem elI_mem {L : List Int} {i : Nat} (h : i < L.length) : elI L i ∈ L := by unfold elI; rw [List.getElem?_eq_getElem h]; exact List.getElem_mem h
theorem use_of {L : List Int} (hv : L.all vUses = true) {i : Nat} (h : i < L.length) : 0 ≤ elI L i ∧ elI L i ≤ 20 := of_decide_eq_true (List.all_eq_true.1 hv _ (elI_mem h))
theorem sum_bd {L : List Int} (hv : L.all vUses = true) : ∀ i, i ≤ L.length → 0 ≤ sumI (L.take i) ∧ sumI (L.take i) ≤ 20 * (i : Int)
  | 0, _ => by simp [sumI]
  | i + 1, h => by
    have h1 := sum_bd hv i (by omega)
    have h2 := use_of hv (i := i) (by omega)
    rw [sumI_next (by omega)]
    omega
set_option maxRecDepth 100000 in
theorem total_any (L : List Int) (b o n cap : Nat) (w : World) (hn : n = L.length) (h10 : L.length ≤ 10) (hv : L.all vUses = true) (hc : ∀ i, i < L.length → w.cell? ⟨b, o + i, none⟩ = some (.int .i64 (elI L i))) : Calls Tryz.prog 80 #[.slice (some ⟨b, o, none⟩) n cap] w (RetI (sumI L) w) := by
  refine calls_run (fn := f80) (c := (f80.body).getD .skip) [.slice (some ⟨b, o, none⟩) n cap] func80 (by kernel_rfl) (fun _ => False) [] (fun _ h => by cases h) (List.Pairwise.nil) 17 (by kernel_rfl) (by simp) ?_
  refine run_auto [] 16 [] [] [2, 3, 6, 7, 8] [] (st' := ⟨[(2, iV 0), (3, iV 0), (6, .slice (some ⟨b, o, none⟩) n cap), (7, iV (n : Int)), (8, iV 0)], []⟩) (acc := []) (by kernel_rfl) (by kernel_rfl) trivial ?_
  refine run_auto [] 0 [] [] [2, 3, 6, 7, 8] [] (st' := ⟨[(2, iV 0), (3, iV 0), (6, .slice (some ⟨b, o, none⟩) n cap), (7, iV (n : Int)), (8, iV 0)], []⟩) (acc := []) (by kernel_rfl) (by kernel_rfl) trivial ?_
  refine run_loop (S := fun (i : Nat) => ⟨[(2, iV 0), (3, iV (sumI (L.take i))), (6, .slice (some ⟨b, o, none⟩) n cap), (7, iV (n : Int)), (8, iV (i : Int))], []⟩) (fun i => i ≤ L.length) (fun i => L.length - i) (0) (by kernel_rfl) (Nat.zero_le _) (by simp [sumI]) (fun i hI0 J0 hJ0 => ?_)
  cases hd1 : (decide ((i : Int) < (n : Int))) with
  | false =>
    have hp1 := of_decide_eq_false hd1
    refine run_auto [(9, .bool false)] 12 [false] [] [2] [] (st' := ⟨[(2, iV (sumI (L.take i)))], []⟩) (acc := [(.bool false, .bool false), (.bool (decide ((i : Int) < (n : Int))), .bool false)]) (by kernel_rfl) (by kernel_rfl) ⟨rfl, (bo hd1), trivial⟩ ?_
    refine run_end (fn := f80) rfl (Nat.le_refl _) (by kernel_rfl) [] [iV (sumI (L.take i))] (e := []) (by kernel_rfl) trivial (fun w1 k1 h1 => ?_)
    exact ⟨by rw [show L.take i = L from by rw [List.take_of_length_le (by omega)]]; rfl, k1.keeps (fun _ h => h)⟩
  | true =>
    have hp1 := of_decide_eq_true hd1
    have hil : i < L.length := by omega
    have hci := hc i hil
    have hb1 := sum_bd hv i (Nat.le_of_lt hil)
    have hb2 := use_of hv hil
    refine run_auto [(9, .bool true)] 11 [true] [] [2, 3, 6, 7, 8] [] (st' := ⟨[(2, iV 0), (3, iV (sumI (L.take i))), (6, .slice (some ⟨b, o, none⟩) n cap), (7, iV (n : Int)), (8, iV (i : Int))], []⟩) (acc := [(.bool true, .bool true), (.bool (decide ((i : Int) < (n : Int))), .bool true)]) (by kernel_rfl) (by kernel_rfl) ⟨rfl, (bo hd1), trivial⟩ ?_
    refine run_v (Instr.indexAt 38 (.slice (some ⟨b, o, none⟩) n cap) (iV (i : Int)) >>= fun v => pure (Next.value v)) (some 10) (.pointer (some ⟨b, o + i, none⟩)) (by kernel_rfl) (fun w1 k1 h1 => idx_off (e := 3) (n := 1) (by kernel_rfl) (by kernel_rfl) b (o) n cap .i64 i (by omega) (o + i) (by omega) w1) ?_
    refine run_v (Instr.loadAt 3 (.pointer (some ⟨b, o + i, none⟩)) >>= fun v => pure (Next.value v)) (some 11) (iV (elI L i)) (by kernel_rfl) (fun w1 k1 h1 => load_in (off := 0) k1 (fun h => h) [iV (elI L i)] (c1 (j := i) hci) (by kernel_rfl)) ?_
    refine run_auto [(14, iV ((sumI (L.take i)) + (elI L i))), (15, iV ((i + 1 : Nat) : Int))] 13 [] [] [2, 3, 6, 7, 8] [] (st' := ⟨[(2, iV 0), (3, iV ((sumI (L.take i)) + (elI L i))), (6, .slice (some ⟨b, o, none⟩) n cap), (7, iV (n : Int)), (8, iV ((i + 1 : Nat) : Int))], []⟩) (acc := [(iV (IntKind.i64.wrap ((i : Int) + 1)), iV ((i + 1 : Nat) : Int)), (iV (IntKind.i64.wrap ((sumI (L.take i)) + (elI L i))), iV ((sumI (L.take i)) + (elI L i)))]) (by kernel_rfl) (by kernel_rfl) ⟨(wr (by omega) (by omega)), (wr (by omega) (by omega)), trivial⟩ ?_
    have hj := hJ0 (i + 1) (by omega) (by omega)
    rw [sumI_next hil] at hj
    exact run_round (by kernel_rfl) hj

set_option maxRecDepth 100000 in
theorem needDays_any (L : List Int) (la : Option Addr) (lc : Nat) (w : World)  : Calls Tryz.prog 76 #[.slice la L.length lc] w (Need (decide (L.length ≤ 10)) 3 w) := by
  refine calls_run (fn := f76) (c := (f76.body).getD .skip) [.slice la L.length lc] func76 (by kernel_rfl) (fun _ => False) [] (fun _ h => by cases h) (List.Pairwise.nil) 6 (by kernel_rfl) (by simp) ?_
  cases hd1 : (decide (10 < (L.length : Int))) with
  | false =>
    have hp1 := of_decide_eq_false hd1
    refine run_auto [(4, .bool false)] 8 [false] [] [] [] (st' := ⟨[], []⟩) (acc := [(.bool false, .bool false), (.bool (decide (10 < (L.length : Int))), .bool false)]) (by kernel_rfl) (by kernel_rfl) ⟨rfl, (bo hd1), trivial⟩ ?_
    refine run_end (fn := f76) rfl (Nat.le_refl _) (by kernel_rfl) [] [] (e := []) (by kernel_rfl) trivial (fun w1 k1 h1 => ?_)
    have h : decide (L.length ≤ 10) = true := decide_eq_true (by omega)
    unfold Need
    rw [h]
    exact ⟨rfl, k1.keeps (fun _ h => h)⟩
  | true =>
    have hp1 := of_decide_eq_true hd1
    refine run_auto [(4, .bool true)] 9 [true] [] [5] [] (st' := ⟨[(5, .iface 29 (iV 3))], []⟩) (acc := [(.bool true, .bool true), (.bool (decide (10 < (L.length : Int))), .bool true)]) (by kernel_rfl) (by kernel_rfl) ⟨rfl, (bo hd1), trivial⟩ ?_
    have h : decide (L.length ≤ 10) = false := decide_eq_false (by omega)
    unfold Need
    rw [h]
    exact run_panic rfl (Nat.le_refl _) (Instr.panic (.iface 29 (iV 3)) >>= fun v => pure (Next.value v)) none (.iface 29 (iV 3)) (by kernel_rfl) (fun w => by kernel_rfl) (fun w1 k1 h1 => ⟨rfl, k1.keeps (fun _ h => h)⟩)

set_option maxRecDepth 100000 in
theorem needUses_any (L : List Int) (la : Option Addr) (lc : Nat) (w : World) (hL : Ins w la L) (hl : L.length ≤ maxLen) : Calls Tryz.prog 77 #[.slice la L.length lc] w (Need (L.all vUses) 2 w) := by
  simp only [maxLen] at hl
  refine calls_run (fn := f77) (c := (f77.body).getD .skip) [.slice la L.length lc] func77 (by kernel_rfl) (fun _ => False) [] (fun _ h => by cases h) (List.Pairwise.nil) 15 (by kernel_rfl) (by simp) ?_
  refine run_auto [] 7 [] [] [4, 5, 6] [] (st' := ⟨[(4, .slice la L.length lc), (5, iV (L.length : Int)), (6, iV 0)], []⟩) (acc := []) (by kernel_rfl) (by kernel_rfl) trivial ?_
  refine run_auto [] 0 [] [] [4, 5, 6] [] (st' := ⟨[(4, .slice la L.length lc), (5, iV (L.length : Int)), (6, iV 0)], []⟩) (acc := []) (by kernel_rfl) (by kernel_rfl) trivial ?_
  refine run_loop (S := fun (i : Nat) => ⟨[(4, .slice la L.length lc), (5, iV (L.length : Int)), (6, iV (i : Int))], []⟩) (fun i => i ≤ L.length ∧ ∀ j, j < i → vUses (elI L j) = true) (fun i => L.length - i) (0) (by kernel_rfl) (⟨Nat.zero_le _, fun _ h => by cases h⟩) (by kernel_rfl) (fun i hI0 J0 hJ0 => ?_)
  obtain ⟨hI1, hI2⟩ := hI0
  cases hd1 : (decide ((i : Int) < (L.length : Int))) with
  | false =>
    have hp1 := of_decide_eq_false hd1
    refine run_auto [(7, .bool false)] 7 [false] [] [] [] (st' := ⟨[], []⟩) (acc := [(.bool false, .bool false), (.bool (decide ((i : Int) < (L.length : Int))), .bool false)]) (by kernel_rfl) (by kernel_rfl) ⟨rfl, (bo hd1), trivial⟩ ?_
    refine run_end (fn := f77) rfl (Nat.le_refl _) (by kernel_rfl) [] [] (e := []) (by kernel_rfl) trivial (fun w1 k1 h1 => ?_)
    have h : L.all vUses = true := allI_yes (p := vUses) (d := 0) (fun j hj => hI2 j (by omega))
    unfold Need
    rw [h]
    exact ⟨rfl, k1.keeps (fun _ h => h)⟩
  | true =>
    have hp1 := of_decide_eq_true hd1
    have hil : i < L.length := by omega
    obtain ⟨b, o, hla, hc⟩ := hL (by intro h; rw [h] at hil; cases hil)
    have hci := hc i hil
    refine run_auto [(7, .bool true)] 11 [true] [] [4, 5, 6] [] (st' := ⟨[(4, .slice la L.length lc), (5, iV (L.length : Int)), (6, iV (i : Int))], []⟩) (acc := [(.bool true, .bool true), (.bool (decide ((i : Int) < (L.length : Int))), .bool true)]) (by kernel_rfl) (by kernel_rfl) ⟨rfl, (bo hd1), trivial⟩ ?_
    refine run_v (Instr.indexAt 38 (.slice la L.length lc) (iV (i : Int)) >>= fun v => pure (Next.value v)) (some 8) (.pointer (some ⟨b, o + i, none⟩)) (by kernel_rfl) (fun w1 k1 h1 => (by rw [hla]; exact idx_off (e := 3) (n := 1) (by kernel_rfl) (by kernel_rfl) b o L.length lc .i64 i hil (o + i) (by omega) w1)) ?_
    refine run_v (Instr.loadAt 3 (.pointer (some ⟨b, o + i, none⟩)) >>= fun v => pure (Next.value v)) (some 9) (iV (elI L i)) (by kernel_rfl) (fun w1 k1 h1 => load_in (off := 0) k1 (fun h => h) [iV (elI L i)] (c1 (j := i) hci) (by kernel_rfl)) ?_
    refine run_auto [] 5 [] [] [4, 5, 6, 10] [] (st' := ⟨[(4, .slice la L.length lc), (5, iV (L.length : Int)), (6, iV (i : Int)), (10, iV (elI L i))], []⟩) (acc := []) (by kernel_rfl) (by kernel_rfl) trivial ?_
    cases hd2 : (decide (0 ≤ (elI L i) ∧ (elI L i) ≤ 20)) with
    | false =>
      have hp2 := of_decide_eq_false hd2
      refine run_ret1 115 #[iV (elI L i)] (some 11) (.bool false) (by kernel_rfl) (fun w1 k1 h1 => (by have h := vuses_any (elI L i) w1; rw [hd2] at h; exact h)) ?_
      refine run_auto [(12, .bool true)] 5 [true] [] [4, 5, 6, 13] [] (st' := ⟨[(4, .slice la L.length lc), (5, iV (L.length : Int)), (6, iV (i : Int)), (13, .iface 29 (iV 2))], []⟩) (acc := [(.bool true, .bool true), (.bool true, .bool true)]) (by kernel_rfl) (by kernel_rfl) ⟨rfl, rfl, trivial⟩ ?_
      have h : L.all vUses = false := allI_no (p := vUses) (d := 0) hil (show vUses (elI L i) = false from hd2)
      unfold Need
      rw [h]
      exact run_panic rfl (Nat.le_refl _) (Instr.panic (.iface 29 (iV 2)) >>= fun v => pure (Next.value v)) none (.iface 29 (iV 2)) (by kernel_rfl) (fun w => by kernel_rfl) (fun w1 k1 h1 => ⟨rfl, k1.keeps (fun _ h => h)⟩)
    | true =>
      have hp2 := of_decide_eq_true hd2
      refine run_ret1 115 #[iV (elI L i)] (some 11) (.bool true) (by kernel_rfl) (fun w1 k1 h1 => (by have h := vuses_any (elI L i) w1; rw [hd2] at h; exact h)) ?_
      refine run_auto [(12, .bool false), (14, iV ((i + 1 : Nat) : Int))] 9 [false] [] [4, 5, 6] [] (st' := ⟨[(4, .slice la L.length lc), (5, iV (L.length : Int)), (6, iV ((i + 1 : Nat) : Int))], []⟩) (acc := [(iV (IntKind.i64.wrap ((i : Int) + 1)), iV ((i + 1 : Nat) : Int)), (.bool false, .bool false), (.bool false, .bool false)]) (by kernel_rfl) (by kernel_rfl) ⟨(wr (by omega) (by omega)), rfl, rfl, trivial⟩ ?_
      exact run_round (by kernel_rfl) (hJ0 (i + 1) (⟨by omega, fun j hj => (Nat.lt_succ_iff_lt_or_eq.1 hj).elim (hI2 j) (fun h => h ▸ hd2)⟩) (by omega))


theorem elI_take {L : List Int} {i k : Nat} (h : i < k) : elI (L.take k) i = elI L i := by unfold elI; rw [List.getElem?_take_of_lt h]
theorem all_take {L : List Int} (h : L.all vUses = true) (k : Nat) : (L.take k).all vUses = true := List.all_eq_true.2 fun x hx => List.all_eq_true.1 h x (List.mem_of_mem_take hx)
set_option maxRecDepth 100000 in
theorem day11_any (p : Wb) (x : Sp) (m : Int) (L : List Int) (la : Option Addr) (lc i : Nat) (bx bp b_l b_m : Nat) (w : World) (hbx : w.heap[bx]? = some (.cells #[.int .i64 x.1, .int .i64 x.2] 75 (0, 0))) (hbp : w.heap[bp]? = some (.cells #[.int .i64 p.ll, .int .i64 p.lh, .int .i64 p.ul, .int .i64 p.uh, .slice p.ea p.es.length p.ec] 26 (0, 0))) (hb_l : w.heap[b_l]? = some (.cells #[.slice la L.length lc] 38 (0, 0))) (hb_m : w.heap[b_m]? = some (.cells #[.int .i64 m] 3 (0, 0))) (hL : Ins w la L) (hu : 0 ≤ p.ul ∧ p.ul ≤ p.uh ∧ p.uh ≤ 3) (hx : bdS x 2000) (hall : L.all vUses = true) (hi : i < L.length) (hlen : L.length ≤ 10) (hlc : L.length ≤ lc) : Calls Tryz.prog 79 #[.int .i64 (i : Int), .pointer (some ⟨bx, 0, none⟩), .pointer (some ⟨bp, 0, none⟩), .pointer (some ⟨b_l, 0, none⟩), .pointer (some ⟨b_m, 0, none⟩)] w (RetB (tooF x (p.ul, p.uh) m (sumI (L.take (i + 1)))) w) := by
  have hsb := sum_bd hall (i + 1) hi
  obtain ⟨⟨m1, m2⟩, m3, m4⟩ := use_bd hu.1 hu.2.1 hu.2.2 (n := sumI (L.take (i + 1))) hsb.1 (by omega)
  unfold bdS at hx
  obtain ⟨bq, oq, rfl, hcq⟩ := hL (by intro h; rw [h] at hi; cases hi)
  refine calls_run (fn := f79) (c := (f79.body).getD .skip) [.int .i64 (i : Int), .pointer (some ⟨bx, 0, none⟩), .pointer (some ⟨bp, 0, none⟩), .pointer (some ⟨b_l, 0, none⟩), .pointer (some ⟨b_m, 0, none⟩)] func79 (by kernel_rfl) (fun _ => False) [] (fun _ h => by cases h) (List.Pairwise.nil) 18 (by kernel_rfl) (by simp) ?_
  refine run_auto [] 5 [] [] [0, 1, 2, 3, 4, 6] [] (st' := ⟨[(0, iV (i : Int)), (1, pA bx), (2, pA bp), (3, pA b_l), (4, pA b_m), (6, .bool false)], []⟩) (acc := []) (by kernel_rfl) (by kernel_rfl) trivial ?_
  cases hd1 : (decide (((movS x (negS (manS (sumI (L.take (i + 1))) (p.ul, p.uh)))).1) < m)) with
  | false =>
    have hp1 := of_decide_eq_false hd1
    refine draw 12 [{ val := fun _ => .agg #[iV x.1, iV x.2], slots := [1] },
          { val := fun _ => .pointer (some ⟨bp, 2, none⟩), slots := [2] },
          { val := fun _ => .agg #[iV p.ul, iV p.uh], slots := [8] },
          { val := fun _ => .slice (some ⟨bq, oq, none⟩) L.length lc, slots := [3] },
          { val := fun _ => iV (i : Int), slots := [0] },
          { val := fun _ => iV ((i + 1 : Nat) : Int), slots := [11] },
          { val := fun _ => .slice (some ⟨bq, oq, none⟩) (i + 1 : Nat) lc, slots := [10, 12] },
          { val := fun _ => iV (sumI (L.take (i + 1))), slots := [13] },
          { val := fun _ => .agg #[iV ((movS x (negS (manS (sumI (L.take (i + 1))) (p.ul, p.uh)))).1), iV ((movS x (negS (manS (sumI (L.take (i + 1))) (p.ul, p.uh)))).2)], slots := [7, 9, 14] },
          { val := fun _ => iV m, slots := [4] },
          { val := fun _ => .bool false, slots := [15, 16] },
          { val := fun _ => .bool false, slots := [17] }] [[], [], [1], [], [], [4], [3, 4, 5], [3, 4, 5, 6], [0, 1, 2, 3, 4, 5, 6, 7], [], [0, 1, 2, 3, 4, 5, 6, 7, 8, 9], [0, 1, 2, 3, 4, 5, 6, 7, 8, 9, 10]] (by kernel_rfl) (by kernel_rfl) (by kernel_rfl) (by kernel_rfl) [6] [] (by kernel_rfl)
          ⟨⟨⟨⟨⟨⟨⟨⟨⟨⟨⟨⟨trivial,
          tri_v (fun β => (Instr.loadAt 75 (pA bx) >>= fun v => pure (Next.value v))) (by kernel_rfl) (fun β extra => by kernel_rfl) (fun β => by kernel_rfl) (fun β w1 k1 h1 => load_in (base := 0) (off := 0) k1 (fun h => h) [iV x.1, iV x.2] (fun i u hi => by rw [Nat.zero_add]; exact cells_of_heap hbx i u hi) (by kernel_rfl))⟩,
          tri_quiet (fun β => []) [] [] (fun β => []) (by kernel_rfl) (fun β extra => by kernel_rfl) (by kernel_rfl) (fun β => trivial)⟩,
          tri_v (fun β => (Instr.loadAt 23 (.pointer (some ⟨bp, 2, none⟩)) >>= fun v => pure (Next.value v))) (by kernel_rfl) (fun β extra => by kernel_rfl) (fun β => by kernel_rfl) (fun β w1 k1 h1 => load_in (base := 0) (off := 2) k1 (fun h => h) [iV p.ll, iV p.lh, iV p.ul, iV p.uh, .slice p.ea p.es.length p.ec] (fun i u hi => by rw [Nat.zero_add]; exact cells_of_heap hbp i u hi) (by kernel_rfl))⟩,
          tri_v (fun β => (Instr.loadAt 38 (pA b_l) >>= fun v => pure (Next.value v))) (by kernel_rfl) (fun β extra => by kernel_rfl) (fun β => by kernel_rfl) (fun β w1 k1 h1 => load_in (base := 0) (off := 0) k1 (fun h => h) [.slice (some ⟨bq, oq, none⟩) L.length lc] (fun i u hi => by rw [Nat.zero_add]; exact cells_of_heap hb_l i u hi) (by kernel_rfl))⟩,
          tri_quiet (fun β => []) [] [] (fun β => []) (by kernel_rfl) (fun β extra => by kernel_rfl) (by kernel_rfl) (fun β => trivial)⟩,
          tri_quiet (fun β => [(12, iV ((i + 1 : Nat) : Int))]) [] [] (fun β => [(iV (IntKind.i64.wrap ((i : Int) + 1)), iV ((i + 1 : Nat) : Int))]) (by kernel_rfl) (fun β extra => by kernel_rfl) (by kernel_rfl) (fun β => ⟨(wr (by omega) (by omega)), trivial⟩)⟩,
          tri_v (fun β => (Instr.sliceAt 38 (.slice (some ⟨bq, oq, none⟩) L.length lc) none (some (iV ((i + 1 : Nat) : Int))) none >>= fun v => pure (Next.value v))) (by kernel_rfl) (fun β extra => by kernel_rfl) (fun β => by kernel_rfl) (fun β w1 k1 h1 => cut_h (P := Tryz.prog) (t := 38) (e := 3) (n := 1) (by kernel_rfl) (by kernel_rfl) bq (oq) L.length lc w1 .i64 (i + 1 : Nat) (by omega))⟩,
          tri_call 80 (fun β => #[.slice (some ⟨bq, oq, none⟩) (i + 1 : Nat) lc]) (by kernel_rfl) (fun β extra => by kernel_rfl) (fun β => by kernel_rfl) (fun β w1 k1 h1 => total_any (L.take (i + 1)) bq oq (i + 1) lc w1 (by rw [List.length_take]; omega) (by rw [List.length_take]; omega) (all_take hall _) (fun j hj => by rw [List.length_take] at hj; rw [elI_take (by omega)]; exact k1.cell (hcq j (by omega)) (fun h => h)))⟩,
          tri_call 74 (fun β => #[.agg #[iV x.1, iV x.2], .agg #[iV p.ul, iV p.uh], iV (sumI (L.take (i + 1)))]) (by kernel_rfl) (fun β extra => by kernel_rfl) (fun β => by kernel_rfl) (fun β w1 k1 h1 => worn_any x.1 x.2 p.ul p.uh (sumI (L.take (i + 1))) (by omega) (by omega) (by omega) (by omega) (by omega) (by omega) (by omega) (by omega) w1)⟩,
          tri_v (fun β => (Instr.loadAt 3 (pA b_m) >>= fun v => pure (Next.value v))) (by kernel_rfl) (fun β extra => by kernel_rfl) (fun β => by kernel_rfl) (fun β w1 k1 h1 => load_in (base := 0) (off := 0) k1 (fun h => h) [iV m] (fun i u hi => by rw [Nat.zero_add]; exact cells_of_heap hb_m i u hi) (by kernel_rfl))⟩,
          tri_call 58 (fun β => #[.agg #[iV ((movS x (negS (manS (sumI (L.take (i + 1))) (p.ul, p.uh)))).1), iV ((movS x (negS (manS (sumI (L.take (i + 1))) (p.ul, p.uh)))).2)], iV m]) (by kernel_rfl) (fun β extra => by kernel_rfl) (fun β => by kernel_rfl) (fun β w1 k1 h1 => (by have h := pbelow_any ((movS x (negS (manS (sumI (L.take (i + 1))) (p.ul, p.uh)))).1) ((movS x (negS (manS (sumI (L.take (i + 1))) (p.ul, p.uh)))).2) m w1; rw [hd1] at h; exact h))⟩,
          tri_quiet (fun β => []) [] [] (fun β => []) (by kernel_rfl) (fun β extra => by kernel_rfl) (by kernel_rfl) (fun β => trivial)⟩
          (fun β => ⟨[(6, .bool false)], []⟩) (fun β => by kernel_rfl) (fun β1 => ?_)
    refine run_end (fn := f79) rfl (Nat.le_refl _) (by kernel_rfl) [] [.bool false] (e := []) (by kernel_rfl) trivial (fun w1 k1 h1 => ?_)
    exact ⟨by unfold tooF; rw [show decide _ = false from hd1]; rfl, k1.keeps (fun _ h => h)⟩
  | true =>
    have hp1 := of_decide_eq_true hd1
    refine draw 12 [{ val := fun _ => .agg #[iV x.1, iV x.2], slots := [1] },
          { val := fun _ => .pointer (some ⟨bp, 2, none⟩), slots := [2] },
          { val := fun _ => .agg #[iV p.ul, iV p.uh], slots := [8] },
          { val := fun _ => .slice (some ⟨bq, oq, none⟩) L.length lc, slots := [3] },
          { val := fun _ => iV (i : Int), slots := [0] },
          { val := fun _ => iV ((i + 1 : Nat) : Int), slots := [11] },
          { val := fun _ => .slice (some ⟨bq, oq, none⟩) (i + 1 : Nat) lc, slots := [10, 12] },
          { val := fun _ => iV (sumI (L.take (i + 1))), slots := [13] },
          { val := fun _ => .agg #[iV ((movS x (negS (manS (sumI (L.take (i + 1))) (p.ul, p.uh)))).1), iV ((movS x (negS (manS (sumI (L.take (i + 1))) (p.ul, p.uh)))).2)], slots := [7, 9, 14] },
          { val := fun _ => iV m, slots := [4] },
          { val := fun _ => .bool true, slots := [15, 16] },
          { val := fun _ => .bool true, slots := [17] }] [[], [], [1], [], [], [4], [3, 4, 5], [3, 4, 5, 6], [0, 1, 2, 3, 4, 5, 6, 7], [], [0, 1, 2, 3, 4, 5, 6, 7, 8, 9], [0, 1, 2, 3, 4, 5, 6, 7, 8, 9, 10]] (by kernel_rfl) (by kernel_rfl) (by kernel_rfl) (by kernel_rfl) [6] [] (by kernel_rfl)
          ⟨⟨⟨⟨⟨⟨⟨⟨⟨⟨⟨⟨trivial,
          tri_v (fun β => (Instr.loadAt 75 (pA bx) >>= fun v => pure (Next.value v))) (by kernel_rfl) (fun β extra => by kernel_rfl) (fun β => by kernel_rfl) (fun β w1 k1 h1 => load_in (base := 0) (off := 0) k1 (fun h => h) [iV x.1, iV x.2] (fun i u hi => by rw [Nat.zero_add]; exact cells_of_heap hbx i u hi) (by kernel_rfl))⟩,
          tri_quiet (fun β => []) [] [] (fun β => []) (by kernel_rfl) (fun β extra => by kernel_rfl) (by kernel_rfl) (fun β => trivial)⟩,
          tri_v (fun β => (Instr.loadAt 23 (.pointer (some ⟨bp, 2, none⟩)) >>= fun v => pure (Next.value v))) (by kernel_rfl) (fun β extra => by kernel_rfl) (fun β => by kernel_rfl) (fun β w1 k1 h1 => load_in (base := 0) (off := 2) k1 (fun h => h) [iV p.ll, iV p.lh, iV p.ul, iV p.uh, .slice p.ea p.es.length p.ec] (fun i u hi => by rw [Nat.zero_add]; exact cells_of_heap hbp i u hi) (by kernel_rfl))⟩,
          tri_v (fun β => (Instr.loadAt 38 (pA b_l) >>= fun v => pure (Next.value v))) (by kernel_rfl) (fun β extra => by kernel_rfl) (fun β => by kernel_rfl) (fun β w1 k1 h1 => load_in (base := 0) (off := 0) k1 (fun h => h) [.slice (some ⟨bq, oq, none⟩) L.length lc] (fun i u hi => by rw [Nat.zero_add]; exact cells_of_heap hb_l i u hi) (by kernel_rfl))⟩,
          tri_quiet (fun β => []) [] [] (fun β => []) (by kernel_rfl) (fun β extra => by kernel_rfl) (by kernel_rfl) (fun β => trivial)⟩,
          tri_quiet (fun β => [(12, iV ((i + 1 : Nat) : Int))]) [] [] (fun β => [(iV (IntKind.i64.wrap ((i : Int) + 1)), iV ((i + 1 : Nat) : Int))]) (by kernel_rfl) (fun β extra => by kernel_rfl) (by kernel_rfl) (fun β => ⟨(wr (by omega) (by omega)), trivial⟩)⟩,
          tri_v (fun β => (Instr.sliceAt 38 (.slice (some ⟨bq, oq, none⟩) L.length lc) none (some (iV ((i + 1 : Nat) : Int))) none >>= fun v => pure (Next.value v))) (by kernel_rfl) (fun β extra => by kernel_rfl) (fun β => by kernel_rfl) (fun β w1 k1 h1 => cut_h (P := Tryz.prog) (t := 38) (e := 3) (n := 1) (by kernel_rfl) (by kernel_rfl) bq (oq) L.length lc w1 .i64 (i + 1 : Nat) (by omega))⟩,
          tri_call 80 (fun β => #[.slice (some ⟨bq, oq, none⟩) (i + 1 : Nat) lc]) (by kernel_rfl) (fun β extra => by kernel_rfl) (fun β => by kernel_rfl) (fun β w1 k1 h1 => total_any (L.take (i + 1)) bq oq (i + 1) lc w1 (by rw [List.length_take]; omega) (by rw [List.length_take]; omega) (all_take hall _) (fun j hj => by rw [List.length_take] at hj; rw [elI_take (by omega)]; exact k1.cell (hcq j (by omega)) (fun h => h)))⟩,
          tri_call 74 (fun β => #[.agg #[iV x.1, iV x.2], .agg #[iV p.ul, iV p.uh], iV (sumI (L.take (i + 1)))]) (by kernel_rfl) (fun β extra => by kernel_rfl) (fun β => by kernel_rfl) (fun β w1 k1 h1 => worn_any x.1 x.2 p.ul p.uh (sumI (L.take (i + 1))) (by omega) (by omega) (by omega) (by omega) (by omega) (by omega) (by omega) (by omega) w1)⟩,
          tri_v (fun β => (Instr.loadAt 3 (pA b_m) >>= fun v => pure (Next.value v))) (by kernel_rfl) (fun β extra => by kernel_rfl) (fun β => by kernel_rfl) (fun β w1 k1 h1 => load_in (base := 0) (off := 0) k1 (fun h => h) [iV m] (fun i u hi => by rw [Nat.zero_add]; exact cells_of_heap hb_m i u hi) (by kernel_rfl))⟩,
          tri_call 58 (fun β => #[.agg #[iV ((movS x (negS (manS (sumI (L.take (i + 1))) (p.ul, p.uh)))).1), iV ((movS x (negS (manS (sumI (L.take (i + 1))) (p.ul, p.uh)))).2)], iV m]) (by kernel_rfl) (fun β extra => by kernel_rfl) (fun β => by kernel_rfl) (fun β w1 k1 h1 => (by have h := pbelow_any ((movS x (negS (manS (sumI (L.take (i + 1))) (p.ul, p.uh)))).1) ((movS x (negS (manS (sumI (L.take (i + 1))) (p.ul, p.uh)))).2) m w1; rw [hd1] at h; exact h))⟩,
          tri_quiet (fun β => []) [] [] (fun β => []) (by kernel_rfl) (fun β extra => by kernel_rfl) (by kernel_rfl) (fun β => trivial)⟩
          (fun β => ⟨[(6, .bool true)], []⟩) (fun β => by kernel_rfl) (fun β1 => ?_)
    refine run_end (fn := f79) rfl (Nat.le_refl _) (by kernel_rfl) [] [.bool true] (e := []) (by kernel_rfl) trivial (fun w1 k1 h1 => ?_)
    exact ⟨by unfold tooF; rw [show decide _ = true from hd1]; rfl, k1.keeps (fun _ h => h)⟩

set_option maxRecDepth 100000 in
theorem day1_any (p : Wb) (L : List Int) (la : Option Addr) (lc : Nat) (m : Int) (bp b_l b_m : Nat) (w : World) (hp : p.In w) (hbp : w.heap[bp]? = some (.cells #[.int .i64 p.ll, .int .i64 p.lh, .int .i64 p.ul, .int .i64 p.uh, .slice p.ea p.es.length p.ec] 26 (0, 0))) (hb_l : w.heap[b_l]? = some (.cells #[.slice la L.length lc] 38 (0, 0))) (hb_m : w.heap[b_m]? = some (.cells #[.int .i64 m] 3 (0, 0))) (hL : Ins w la L) (hlc : L.length ≤ lc) : Calls Tryz.prog 75 #[.pointer (some ⟨bp, 0, none⟩), .pointer (some ⟨b_l, 0, none⟩), .pointer (some ⟨b_m, 0, none⟩)] w (W1 (dayR p m L) w) := by
  refine calls_run (fn := f75) (c := (f75.body).getD .skip) [.pointer (some ⟨bp, 0, none⟩), .pointer (some ⟨b_l, 0, none⟩), .pointer (some ⟨b_m, 0, none⟩)] func75 (by kernel_rfl) (fun _ => False) [] (fun _ h => by cases h) (List.Pairwise.nil) 24 (by kernel_rfl) (by simp) ?_
  refine run_auto [] 6 [] [] [0, 1, 2, 3] [] (st' := ⟨[(0, pA bp), (1, pA b_l), (2, pA b_m), (3, iV 0)], []⟩) (acc := []) (by kernel_rfl) (by kernel_rfl) trivial ?_
  refine run_v (Instr.loadAt 26 (pA bp) >>= fun v => pure (Next.value v)) (some 5) (.agg #[iV p.ll, iV p.lh, iV p.ul, iV p.uh, .slice p.ea p.es.length p.ec]) (by kernel_rfl) (fun w1 k1 h1 => load_in (base := 0) (off := 0) k1 (fun h => h) [iV p.ll, iV p.lh, iV p.ul, iV p.uh, .slice p.ea p.es.length p.ec] (fun i u hi => by rw [Nat.zero_add]; exact cells_of_heap hbp i u hi) (by kernel_rfl)) ?_
  cases hd1 : p.n.ok with
  | false =>
    exact run_panics rfl (Nat.le_refl _) 43 #[.agg #[iV p.ll, iV p.lh, iV p.ul, iV p.uh, .slice p.ea p.es.length p.ec]] (some 6) (pe 1) (by kernel_rfl) (fun w1 k1 h1 => (by have h := needBlock_any p w1 (hp.keep (k1.keeps (fun _ h => h))); rw [hd1] at h; exact h)) (fun w1 k1 h1 => (by unfold dayR; rw [hd1]; exact ⟨rfl, k1.keeps (fun _ h => h)⟩))
  | true =>
    have hF := Wn.fine hd1
    have hn8 : p.es.length ≤ 8 := hF.n8
    have hu : 0 ≤ p.ul ∧ p.ul ≤ p.uh ∧ p.uh ≤ 3 := hF.u
    refine run_ret1 43 #[.agg #[iV p.ll, iV p.lh, iV p.ul, iV p.uh, .slice p.ea p.es.length p.ec]] (some 6) (.tuple #[]) (by kernel_rfl) (fun w1 k1 h1 => (by have h := needBlock_any p w1 (hp.keep (k1.keeps (fun _ h => h))); rw [hd1] at h; exact h)) ?_
    refine run_auto [] 3 [] [] [0, 1, 2, 3] [] (st' := ⟨[(0, pA bp), (1, pA b_l), (2, pA b_m), (3, iV 0)], []⟩) (acc := []) (by kernel_rfl) (by kernel_rfl) trivial ?_
    refine run_v (Instr.loadAt 38 (pA b_l) >>= fun v => pure (Next.value v)) (some 7) (.slice la L.length lc) (by kernel_rfl) (fun w1 k1 h1 => load_in (base := 0) (off := 0) k1 (fun h => h) [.slice la L.length lc] (fun i u hi => by rw [Nat.zero_add]; exact cells_of_heap hb_l i u hi) (by kernel_rfl)) ?_
    cases hd2 : (decide (L.length ≤ 10)) with
    | false =>
      have hp2 := of_decide_eq_false hd2
      exact run_panics rfl (Nat.le_refl _) 76 #[.slice la L.length lc] (some 8) (pe 3) (by kernel_rfl) (fun w1 k1 h1 => (by have h := needDays_any L la lc w1; rw [hd2] at h; exact h)) (fun w1 k1 h1 => (by unfold dayR; rw [hd1, hd2]; exact ⟨rfl, k1.keeps (fun _ h => h)⟩))
    | true =>
      have hp2 := of_decide_eq_true hd2
      have hlen : L.length ≤ 10 := of_decide_eq_true hd2
      have hlm : L.length ≤ maxLen := by simp only [maxLen]; omega
      refine run_ret1 76 #[.slice la L.length lc] (some 8) (.tuple #[]) (by kernel_rfl) (fun w1 k1 h1 => (by have h := needDays_any L la lc w1; rw [hd2] at h; exact h)) ?_
      refine run_auto [] 3 [] [] [0, 1, 2, 3] [] (st' := ⟨[(0, pA bp), (1, pA b_l), (2, pA b_m), (3, iV 0)], []⟩) (acc := []) (by kernel_rfl) (by kernel_rfl) trivial ?_
      refine run_v (Instr.loadAt 3 (pA b_m) >>= fun v => pure (Next.value v)) (some 9) (iV m) (by kernel_rfl) (fun w1 k1 h1 => load_in (base := 0) (off := 0) k1 (fun h => h) [iV m] (fun i u hi => by rw [Nat.zero_add]; exact cells_of_heap hb_m i u hi) (by kernel_rfl)) ?_
      cases hd3 : (spI (m, m) (-1000) 1000) with
      | false =>
        exact run_panics rfl (Nat.le_refl _) 55 #[iV m] (some 10) (pe 2) (by kernel_rfl) (fun w1 k1 h1 => (by have h := needLimit_any m w1; rw [hd3] at h; exact h)) (fun w1 k1 h1 => (by unfold dayR; rw [hd1, hd2, hd3]; exact ⟨rfl, k1.keeps (fun _ h => h)⟩))
      | true =>
        refine run_ret1 55 #[iV m] (some 10) (.tuple #[]) (by kernel_rfl) (fun w1 k1 h1 => (by have h := needLimit_any m w1; rw [hd3] at h; exact h)) ?_
        refine run_auto [] 3 [] [] [0, 1, 2, 3] [] (st' := ⟨[(0, pA bp), (1, pA b_l), (2, pA b_m), (3, iV 0)], []⟩) (acc := []) (by kernel_rfl) (by kernel_rfl) trivial ?_
        refine run_v (Instr.loadAt 38 (pA b_l) >>= fun v => pure (Next.value v)) (some 11) (.slice la L.length lc) (by kernel_rfl) (fun w1 k1 h1 => load_in (base := 0) (off := 0) k1 (fun h => h) [.slice la L.length lc] (fun i u hi => by rw [Nat.zero_add]; exact cells_of_heap hb_l i u hi) (by kernel_rfl)) ?_
        cases hd4 : (L.all vUses) with
        | false =>
          exact run_panics rfl (Nat.le_refl _) 77 #[.slice la L.length lc] (some 12) (pe 2) (by kernel_rfl) (fun w1 k1 h1 => (by have h := needUses_any L la lc w1 (hL.keep (k1.keeps (fun _ h => h))) hlm; rw [hd4] at h; exact h)) (fun w1 k1 h1 => (by unfold dayR; rw [hd1, hd2, hd3, hd4]; exact ⟨rfl, k1.keeps (fun _ h => h)⟩))
        | true =>
          have hall := hd4
          refine run_ret1 77 #[.slice la L.length lc] (some 12) (.tuple #[]) (by kernel_rfl) (fun w1 k1 h1 => (by have h := needUses_any L la lc w1 (hL.keep (k1.keeps (fun _ h => h))) hlm; rw [hd4] at h; exact h)) ?_
          refine run_auto [] 3 [] [] [0, 1, 2, 3] [] (st' := ⟨[(0, pA bp), (1, pA b_l), (2, pA b_m), (3, iV 0)], []⟩) (acc := []) (by kernel_rfl) (by kernel_rfl) trivial ?_
          refine run_v (Instr.loadAt 26 (pA bp) >>= fun v => pure (Next.value v)) (some 13) (.agg #[iV p.ll, iV p.lh, iV p.ul, iV p.uh, .slice p.ea p.es.length p.ec]) (by kernel_rfl) (fun w1 k1 h1 => load_in (base := 0) (off := 0) k1 (fun h => h) [iV p.ll, iV p.lh, iV p.ul, iV p.uh, .slice p.ea p.es.length p.ec] (fun i u hi => by rw [Nat.zero_add]; exact cells_of_heap hbp i u hi) (by kernel_rfl)) ?_
          cases hd5 : p.n.can with
          | false =>
            exact run_panics rfl (Nat.le_refl _) 64 #[.agg #[iV p.ll, iV p.lh, iV p.ul, iV p.uh, .slice p.ea p.es.length p.ec]] (some 14) (pe 10) (by kernel_rfl) (fun w1 k1 h1 => (by have h := lastOf_any p w1 (hp.keep (k1.keeps (fun _ h => h))) hF; unfold Tru at h; rw [hd5] at h; exact h)) (fun w1 k1 h1 => (by unfold dayR; rw [hd1, hd2, hd3, hd4, hd5]; exact ⟨rfl, k1.keeps (fun _ h => h)⟩))
          | true =>
            refine run_ret1 64 #[.agg #[iV p.ll, iV p.lh, iV p.ul, iV p.uh, .slice p.ea p.es.length p.ec]] (some 14) (.agg #[iV (mC p.n p.es.length).1, iV (mC p.n p.es.length).2]) (by kernel_rfl) (fun w1 k1 h1 => (by have h := lastOf_any p w1 (hp.keep (k1.keeps (fun _ h => h))) hF; unfold Tru at h; rw [hd5] at h; exact h)) ?_
            refine run_new (aO #[iV 0, iV 0] 75) (fun b1 => pA b1) (some 4) (fun _ => by kernel_rfl) (fun b1 hb1 => ?_)
            refine run_auto [] 4 [] [0] [0, 1, 2, 3, 4] [0] (st' := ⟨[(0, pA bp), (1, pA b_l), (2, pA b_m), (3, iV 0), (4, pA b1)], [(b1, aO #[iV (mC p.n p.es.length).1, iV (mC p.n p.es.length).2] 75)]⟩) (acc := [(pA b1, pA b1)]) (by kernel_rfl) (by kernel_rfl) ⟨rfl, trivial⟩ ?_
            refine run_v (Instr.loadAt 38 (pA b_l) >>= fun v => pure (Next.value v)) (some 15) (.slice la L.length lc) (by kernel_rfl) (fun w1 k1 h1 => load_in (base := 0) (off := 0) k1 (fun h => h) [.slice la L.length lc] (fun i u hi => by rw [Nat.zero_add]; exact cells_of_heap hb_l i u hi) (by kernel_rfl)) ?_
            refine run_auto [] 1 [] [] [0, 1, 2, 3, 4, 16] [0] (st' := ⟨[(0, pA bp), (1, pA b_l), (2, pA b_m), (3, iV 0), (4, pA b1), (16, iV (L.length : Int))], [(b1, aO #[iV (mC p.n p.es.length).1, iV (mC p.n p.es.length).2] 75)]⟩) (acc := []) (by kernel_rfl) (by kernel_rfl) trivial ?_
            refine run_nw 78 #[iV (L.length : Int)] (some 17) (α := Unit) (fun _u b2 => .func (.func 116) #[] #[pA b2]) (fun _u => aO #[iV (L.length : Int)] 3) (fun _u => True) (by kernel_rfl) (fun _ => rfl) (fun w1 k1 h1 => upTo_any (L.length : Int) w1) (fun _u b2 hIb2 hb2 => ?_)
            refine run_auto [] 2 [] [] [3, 19] [0, 1] (st' := ⟨[(3, iV 0), (19, .agg #[.func (.func 116) #[] #[pA b2], .func (.func 79) #[] #[pA b1, pA bp, pA b_l, pA b_m]])], [(b2, aO #[iV (L.length : Int)] 3), (b1, aO #[iV (mC p.n p.es.length).1, iV (mC p.n p.es.length).2] 75)]⟩) (acc := []) (by kernel_rfl) (by kernel_rfl) trivial ?_
            refine run_ret1 71 #[.agg #[.func (.func 116) #[] #[pA b2], .func (.func 79) #[] #[pA b1, pA bp, pA b_l, pA b_m]]] (some 20) (.tuple #[iV (fnV upN (frN (dayF p m L) L.length)), .bool ((frN (dayF p m L) L.length).isSome)]) (by kernel_rfl) (fun w1 k1 h1 => firstDay_any L.length b2 (dayF p m L) b1 bp b_l b_m w1 (by omega) (h1 (b2, aO #[iV (L.length : Int)] 3) (List.mem_of_getElem? (i := 0) (by kernel_rfl))) (fun i hi w2 kk => day11_any p (mC p.n p.es.length) m L la lc i b1 bp b_l b_m w2 ((kk.heap (Array.getElem?_eq_some_iff.1 (h1 (b1, aO #[iV (mC p.n p.es.length).1, iV (mC p.n p.es.length).2] 75) (List.mem_of_getElem? (i := 1) (by kernel_rfl)))).1).trans (h1 (b1, aO #[iV (mC p.n p.es.length).1, iV (mC p.n p.es.length).2] 75) (List.mem_of_getElem? (i := 1) (by kernel_rfl)))) ((kk.heap (Array.getElem?_eq_some_iff.1 ((k1.block _ (Array.getElem?_eq_some_iff.1 hbp).1 (fun h => h)).trans hbp)).1).trans ((k1.block _ (Array.getElem?_eq_some_iff.1 hbp).1 (fun h => h)).trans hbp)) ((kk.heap (Array.getElem?_eq_some_iff.1 ((k1.block _ (Array.getElem?_eq_some_iff.1 hb_l).1 (fun h => h)).trans hb_l)).1).trans ((k1.block _ (Array.getElem?_eq_some_iff.1 hb_l).1 (fun h => h)).trans hb_l)) ((kk.heap (Array.getElem?_eq_some_iff.1 ((k1.block _ (Array.getElem?_eq_some_iff.1 hb_m).1 (fun h => h)).trans hb_m)).1).trans ((k1.block _ (Array.getElem?_eq_some_iff.1 hb_m).1 (fun h => h)).trans hb_m)) ((hL.keep (k1.keeps (fun _ h => h))).keep kk) hu (last_bd hF) hall hi hlen hlc)) ?_
            cases hd6 : ((frN (dayF p m L) L.length).isSome) with
            | false =>
              refine run_auto [] 2 [] [] [3, 21, 22] [] (st' := ⟨[(3, iV 0), (21, iV (fnV upN (frN (dayF p m L) L.length))), (22, .bool false)], []⟩) (acc := []) (by kernel_rfl) (by kernel_rfl) trivial ?_
              exact run_panics rfl (Nat.le_refl _) 70 #[iV (fnV upN (frN (dayF p m L) L.length)), .bool false] (some 23) (pe 4) (by kernel_rfl) (fun w1 k1 h1 => (by have h := needFound_any (fnV upN (frN (dayF p m L) L.length)) false w1; unfold Fnd at h; exact h)) (fun w1 k1 h1 => (by unfold dayR; rw [hd1, hd2, hd3, hd4, hd5, hd6]; exact ⟨rfl, k1.keeps (fun _ h => h)⟩))
            | true =>
              refine run_auto [] 2 [] [] [3, 21, 22] [] (st' := ⟨[(3, iV 0), (21, iV (fnV upN (frN (dayF p m L) L.length))), (22, .bool true)], []⟩) (acc := []) (by kernel_rfl) (by kernel_rfl) trivial ?_
              refine run_ret1 70 #[iV (fnV upN (frN (dayF p m L) L.length)), .bool true] (some 23) (iV (fnV upN (frN (dayF p m L) L.length))) (by kernel_rfl) (fun w1 k1 h1 => (by have h := needFound_any (fnV upN (frN (dayF p m L) L.length)) true w1; unfold Fnd at h; exact h)) ?_
              refine run_auto [] 2 [] [] [3] [] (st' := ⟨[(3, iV (fnV upN (frN (dayF p m L) L.length)))], []⟩) (acc := []) (by kernel_rfl) (by kernel_rfl) trivial ?_
              refine run_end (fn := f75) rfl (Nat.le_refl _) (by kernel_rfl) [] [iV (fnV upN (frN (dayF p m L) L.length))] (e := []) (by kernel_rfl) trivial (fun w1 k1 h1 => ?_)
              unfold dayR
              rw [hd1, hd2, hd3, hd4, hd5, hd6]
              exact ⟨rfl, k1.keeps (fun _ h => h)⟩

set_option maxRecDepth 100000 in
theorem After_any (p : Wb) (n : Int) (w : World) (hp : p.In w)  : Calls Tryz.prog 14 #[.agg #[.int .i64 p.ll, .int .i64 p.lh, .int .i64 p.ul, .int .i64 p.uh, .slice p.ea p.es.length p.ec], .int .i64 n] w (Ret (.tuple #[.agg #[.int .i64 (spA (afterR p n)).1, .int .i64 (spA (afterR p n)).2], .int .i64 (erA (afterR p n))]) w) := by
  refine calls_run (fn := f14) (c := (f14.body).getD .skip) [.agg #[.int .i64 p.ll, .int .i64 p.lh, .int .i64 p.ul, .int .i64 p.uh, .slice p.ea p.es.length p.ec], .int .i64 n] func14 (by kernel_rfl) (fun _ => False) [] (fun _ h => by cases h) (List.Pairwise.nil) 10 (by kernel_rfl) (by simp) ?_
  refine run_auto [] 2 [] [] [0, 1] [] (st' := ⟨[(0, .agg #[iV p.ll, iV p.lh, iV p.ul, iV p.uh, .slice p.ea p.es.length p.ec]), (1, iV n)], []⟩) (acc := []) (by kernel_rfl) (by kernel_rfl) trivial ?_
  refine run_new (aO #[iV p.ll, iV p.lh, iV p.ul, iV p.uh, .slice p.ea p.es.length p.ec] 26) (fun b1 => pA b1) (some 2) (fun _ => by kernel_rfl) (fun b1 hb1 => ?_)
  refine run_new (aO #[iV n] 3) (fun b2 => pA b2) (some 3) (fun _ => by kernel_rfl) (fun b2 hb2 => ?_)
  refine run_new (aO #[iV 0, iV 0] 23) (fun b3 => pA b3) (some 4) (fun _ => by kernel_rfl) (fun b3 hb3 => ?_)
  refine run_auto [] 5 [] [] [4, 5, 6] [0, 1, 2] (st' := ⟨[(4, pA b3), (5, iV 0), (6, .func (.func 42) #[] #[pA b1, pA b2])], [(b3, aO #[iV 0, iV 0] 23), (b2, aO #[iV n] 3), (b1, aO #[iV p.ll, iV p.lh, iV p.ul, iV p.uh, .slice p.ea p.es.length p.ec] 26)]⟩) (acc := []) (by kernel_rfl) (by kernel_rfl) trivial ?_
  refine run_ret1 41 #[.func (.func 42) #[] #[pA b1, pA b2]] (some 7) (.tuple #[.agg #[iV ((spA (afterR p n)).1), iV ((spA (afterR p n)).2)], iV (erA (afterR p n))]) (by kernel_rfl) (fun w1 k1 h1 => ans_span 42 #[pA b1, pA b2] w1 (afterR p n) (fun _ => by kernel_rfl) (fun w2 kk => after1_any p n b1 b2 w2 ((hp.keep (k1.keeps (fun _ h => h))).keep kk) ((kk.heap (Array.getElem?_eq_some_iff.1 (h1 (b1, aO #[iV p.ll, iV p.lh, iV p.ul, iV p.uh, .slice p.ea p.es.length p.ec] 26) (List.mem_of_getElem? (i := 2) (by kernel_rfl)))).1).trans (h1 (b1, aO #[iV p.ll, iV p.lh, iV p.ul, iV p.uh, .slice p.ea p.es.length p.ec] 26) (List.mem_of_getElem? (i := 2) (by kernel_rfl)))) ((kk.heap (Array.getElem?_eq_some_iff.1 (h1 (b2, aO #[iV n] 3) (List.mem_of_getElem? (i := 1) (by kernel_rfl)))).1).trans (h1 (b2, aO #[iV n] 3) (List.mem_of_getElem? (i := 1) (by kernel_rfl)))) )) ?_
  refine run_auto [] 5 [] [0] [4, 5] [0] (st' := ⟨[(4, pA b3), (5, iV (erA (afterR p n)))], [(b3, aO #[iV ((spA (afterR p n)).1), iV ((spA (afterR p n)).2)] 23)]⟩) (acc := [(pA b3, pA b3)]) (by kernel_rfl) (by kernel_rfl) ⟨rfl, trivial⟩ ?_
  refine run_end (fn := f14) rfl (Nat.le_refl _) (by kernel_rfl) [0] [.agg #[iV ((spA (afterR p n)).1), iV ((spA (afterR p n)).2)], iV (erA (afterR p n))] (e := [(pA b3, pA b3)]) (by kernel_rfl) ⟨rfl, trivial⟩ (fun w1 k1 h1 => ?_)
  exact ⟨rfl, k1.keeps (fun _ h => h)⟩

set_option maxRecDepth 100000 in
theorem Lost_any (p : Wb)  (w : World) (hp : p.In w)  : Calls Tryz.prog 16 #[.agg #[.int .i64 p.ll, .int .i64 p.lh, .int .i64 p.ul, .int .i64 p.uh, .slice p.ea p.es.length p.ec]] w (Ret (.tuple #[.agg #[.int .i64 (spA (lostR p)).1, .int .i64 (spA (lostR p)).2], .int .i64 (erA (lostR p))]) w) := by
  refine calls_run (fn := f16) (c := (f16.body).getD .skip) [.agg #[.int .i64 p.ll, .int .i64 p.lh, .int .i64 p.ul, .int .i64 p.uh, .slice p.ea p.es.length p.ec]] func16 (by kernel_rfl) (fun _ => False) [] (fun _ h => by cases h) (List.Pairwise.nil) 8 (by kernel_rfl) (by simp) ?_
  refine run_auto [] 2 [] [] [0] [] (st' := ⟨[(0, .agg #[iV p.ll, iV p.lh, iV p.ul, iV p.uh, .slice p.ea p.es.length p.ec])], []⟩) (acc := []) (by kernel_rfl) (by kernel_rfl) trivial ?_
  refine run_new (aO #[iV p.ll, iV p.lh, iV p.ul, iV p.uh, .slice p.ea p.es.length p.ec] 26) (fun b1 => pA b1) (some 1) (fun _ => by kernel_rfl) (fun b1 hb1 => ?_)
  refine run_new (aO #[iV 0, iV 0] 23) (fun b2 => pA b2) (some 2) (fun _ => by kernel_rfl) (fun b2 hb2 => ?_)
  refine run_auto [] 5 [] [] [2, 3, 4] [0, 1] (st' := ⟨[(2, pA b2), (3, iV 0), (4, .func (.func 49) #[] #[pA b1])], [(b2, aO #[iV 0, iV 0] 23), (b1, aO #[iV p.ll, iV p.lh, iV p.ul, iV p.uh, .slice p.ea p.es.length p.ec] 26)]⟩) (acc := []) (by kernel_rfl) (by kernel_rfl) trivial ?_
  refine run_ret1 41 #[.func (.func 49) #[] #[pA b1]] (some 5) (.tuple #[.agg #[iV ((spA (lostR p)).1), iV ((spA (lostR p)).2)], iV (erA (lostR p))]) (by kernel_rfl) (fun w1 k1 h1 => ans_span 49 #[pA b1] w1 (lostR p) (fun _ => by kernel_rfl) (fun w2 kk => lost1_any p b1 w2 ((hp.keep (k1.keeps (fun _ h => h))).keep kk) ((kk.heap (Array.getElem?_eq_some_iff.1 (h1 (b1, aO #[iV p.ll, iV p.lh, iV p.ul, iV p.uh, .slice p.ea p.es.length p.ec] 26) (List.mem_of_getElem? (i := 1) (by kernel_rfl)))).1).trans (h1 (b1, aO #[iV p.ll, iV p.lh, iV p.ul, iV p.uh, .slice p.ea p.es.length p.ec] 26) (List.mem_of_getElem? (i := 1) (by kernel_rfl)))) )) ?_
  refine run_auto [] 5 [] [0] [2, 3] [0] (st' := ⟨[(2, pA b2), (3, iV (erA (lostR p)))], [(b2, aO #[iV ((spA (lostR p)).1), iV ((spA (lostR p)).2)] 23)]⟩) (acc := [(pA b2, pA b2)]) (by kernel_rfl) (by kernel_rfl) ⟨rfl, trivial⟩ ?_
  refine run_end (fn := f16) rfl (Nat.le_refl _) (by kernel_rfl) [0] [.agg #[iV ((spA (lostR p)).1), iV ((spA (lostR p)).2)], iV (erA (lostR p))] (e := [(pA b2, pA b2)]) (by kernel_rfl) ⟨rfl, trivial⟩ (fun w1 k1 h1 => ?_)
  exact ⟨rfl, k1.keeps (fun _ h => h)⟩

set_option maxRecDepth 100000 in
theorem Below_any (p : Wb) (m : Int) (w : World) (hp : p.In w)  : Calls Tryz.prog 18 #[.agg #[.int .i64 p.ll, .int .i64 p.lh, .int .i64 p.ul, .int .i64 p.uh, .slice p.ea p.es.length p.ec], .int .i64 m] w (Ret (.tuple #[.int .i64 (spA (belowR p m)).1, .int .i64 (spA (belowR p m)).2, .int .i64 (erA (belowR p m))]) w) := by
  refine calls_run (fn := f18) (c := (f18.body).getD .skip) [.agg #[.int .i64 p.ll, .int .i64 p.lh, .int .i64 p.ul, .int .i64 p.uh, .slice p.ea p.es.length p.ec], .int .i64 m] func18 (by kernel_rfl) (fun _ => False) [] (fun _ h => by cases h) (List.Pairwise.nil) 18 (by kernel_rfl) (by simp) ?_
  refine run_auto [] 2 [] [] [0, 1] [] (st' := ⟨[(0, .agg #[iV p.ll, iV p.lh, iV p.ul, iV p.uh, .slice p.ea p.es.length p.ec]), (1, iV m)], []⟩) (acc := []) (by kernel_rfl) (by kernel_rfl) trivial ?_
  refine run_new (aO #[iV p.ll, iV p.lh, iV p.ul, iV p.uh, .slice p.ea p.es.length p.ec] 26) (fun b1 => pA b1) (some 2) (fun _ => by kernel_rfl) (fun b1 hb1 => ?_)
  refine run_new (aO #[iV m] 3) (fun b2 => pA b2) (some 3) (fun _ => by kernel_rfl) (fun b2 hb2 => ?_)
  refine run_auto [] 7 [] [] [4, 5, 6, 9] [0, 1] (st' := ⟨[(4, iV 0), (5, iV 0), (6, iV 0), (9, .func (.func 54) #[] #[pA b1, pA b2])], [(b2, aO #[iV m] 3), (b1, aO #[iV p.ll, iV p.lh, iV p.ul, iV p.uh, .slice p.ea p.es.length p.ec] 26)]⟩) (acc := []) (by kernel_rfl) (by kernel_rfl) trivial ?_
  refine run_ret1 53 #[.func (.func 54) #[] #[pA b1, pA b2]] (some 10) (.tuple #[.agg #[iV ((spA (belowR p m)).1), iV ((spA (belowR p m)).2)], iV (erA (belowR p m))]) (by kernel_rfl) (fun w1 k1 h1 => ans_short 54 #[pA b1, pA b2] w1 (belowR p m) (fun _ => by kernel_rfl) (fun w2 kk => below1_any p m b1 b2 w2 ((hp.keep (k1.keeps (fun _ h => h))).keep kk) ((kk.heap (Array.getElem?_eq_some_iff.1 (h1 (b1, aO #[iV p.ll, iV p.lh, iV p.ul, iV p.uh, .slice p.ea p.es.length p.ec] 26) (List.mem_of_getElem? (i := 1) (by kernel_rfl)))).1).trans (h1 (b1, aO #[iV p.ll, iV p.lh, iV p.ul, iV p.uh, .slice p.ea p.es.length p.ec] 26) (List.mem_of_getElem? (i := 1) (by kernel_rfl)))) ((kk.heap (Array.getElem?_eq_some_iff.1 (h1 (b2, aO #[iV m] 3) (List.mem_of_getElem? (i := 0) (by kernel_rfl)))).1).trans (h1 (b2, aO #[iV m] 3) (List.mem_of_getElem? (i := 0) (by kernel_rfl)))) )) ?_
  refine run_auto [] 3 [] [] [4, 5, 6, 11, 12] [] (st' := ⟨[(4, iV 0), (5, iV 0), (6, iV 0), (11, .agg #[iV ((spA (belowR p m)).1), iV ((spA (belowR p m)).2)]), (12, iV (erA (belowR p m)))], []⟩) (acc := []) (by kernel_rfl) (by kernel_rfl) trivial ?_
  refine run_new (aO #[iV 0, iV 0] 88) (fun b3 => pA b3) (some 7) (fun _ => by kernel_rfl) (fun b3 hb3 => ?_)
  refine run_auto [] 4 [] [0] [4, 5, 6, 7] [0] (st' := ⟨[(4, iV 0), (5, iV 0), (6, iV (erA (belowR p m))), (7, pA b3)], [(b3, aO #[iV ((spA (belowR p m)).1), iV ((spA (belowR p m)).2)] 88)]⟩) (acc := [(pA b3, pA b3)]) (by kernel_rfl) (by kernel_rfl) ⟨rfl, trivial⟩ ?_
  refine draw 8 [{ val := fun _ => pA b3, slots := [7] },
      { val := fun _ => iV ((spA (belowR p m)).1), slots := [13], reads := [0] },
      { val := fun _ => .pointer (some ⟨b3, 1, none⟩), slots := [7] },
      { val := fun _ => iV ((spA (belowR p m)).2), slots := [15], reads := [0] },
      { val := fun _ => iV (erA (belowR p m)), slots := [6] },
      { val := fun _ => iV ((spA (belowR p m)).1), slots := [14] },
      { val := fun _ => iV ((spA (belowR p m)).2), slots := [16] },
      { val := fun _ => iV (erA (belowR p m)), slots := [17] }] [[], [0], [], [2], [], [0, 1], [0, 1, 2, 3, 5], [0, 1, 2, 3, 4, 5, 6]] (by kernel_rfl) (by kernel_rfl) (by kernel_rfl) (by kernel_rfl) [4, 5, 6] [] (by kernel_rfl)
      ⟨⟨⟨⟨⟨⟨⟨⟨trivial,
      tri_quiet (fun β => []) [] [] (fun β => []) (by kernel_rfl) (fun β extra => by kernel_rfl) (by kernel_rfl) (fun β => trivial)⟩,
      tri_quiet (fun β => []) [0] [0] (fun β => [(pA b3, pA b3)]) (by kernel_rfl) (fun β extra => by kernel_rfl) (by kernel_rfl) (fun β => ⟨rfl, trivial⟩)⟩,
      tri_quiet (fun β => []) [] [] (fun β => []) (by kernel_rfl) (fun β extra => by kernel_rfl) (by kernel_rfl) (fun β => trivial)⟩,
      tri_quiet (fun β => []) [0] [0] (fun β => [(pA b3, pA b3)]) (by kernel_rfl) (fun β extra => by kernel_rfl) (by kernel_rfl) (fun β => ⟨rfl, trivial⟩)⟩,
      tri_quiet (fun β => []) [] [] (fun β => []) (by kernel_rfl) (fun β extra => by kernel_rfl) (by kernel_rfl) (fun β => trivial)⟩,
      tri_quiet (fun β => []) [] [] (fun β => []) (by kernel_rfl) (fun β extra => by kernel_rfl) (by kernel_rfl) (fun β => trivial)⟩,
      tri_quiet (fun β => []) [] [] (fun β => []) (by kernel_rfl) (fun β extra => by kernel_rfl) (by kernel_rfl) (fun β => trivial)⟩,
      tri_quiet (fun β => []) [] [] (fun β => []) (by kernel_rfl) (fun β extra => by kernel_rfl) (by kernel_rfl) (fun β => trivial)⟩
      (fun β => ⟨[(4, iV ((spA (belowR p m)).1)), (5, iV ((spA (belowR p m)).2)), (6, iV (erA (belowR p m)))], []⟩) (fun β => by kernel_rfl) (fun β4 => ?_)
  refine run_end (fn := f18) rfl (Nat.le_refl _) (by kernel_rfl) [] [iV ((spA (belowR p m)).1), iV ((spA (belowR p m)).2), iV (erA (belowR p m))] (e := []) (by kernel_rfl) trivial (fun w1 k1 h1 => ?_)
  exact ⟨rfl, k1.keeps (fun _ h => h)⟩

set_option maxRecDepth 100000 in
theorem Fits_any (p : Wb) (s : Sp) (w : World) (hp : p.In w)  : Calls Tryz.prog 20 #[.agg #[.int .i64 p.ll, .int .i64 p.lh, .int .i64 p.ul, .int .i64 p.uh, .slice p.ea p.es.length p.ec], .agg #[.int .i64 s.1, .int .i64 s.2]] w (Ret (.tuple #[.int .i64 (inA (fitsR p s)), .int .i64 (erA (fitsR p s))]) w) := by
  refine calls_run (fn := f20) (c := (f20.body).getD .skip) [.agg #[.int .i64 p.ll, .int .i64 p.lh, .int .i64 p.ul, .int .i64 p.uh, .slice p.ea p.es.length p.ec], .agg #[.int .i64 s.1, .int .i64 s.2]] func20 (by kernel_rfl) (fun _ => False) [] (fun _ h => by cases h) (List.Pairwise.nil) 10 (by kernel_rfl) (by simp) ?_
  refine run_auto [] 2 [] [] [0, 1] [] (st' := ⟨[(0, .agg #[iV p.ll, iV p.lh, iV p.ul, iV p.uh, .slice p.ea p.es.length p.ec]), (1, .agg #[iV s.1, iV s.2])], []⟩) (acc := []) (by kernel_rfl) (by kernel_rfl) trivial ?_
  refine run_new (aO #[iV p.ll, iV p.lh, iV p.ul, iV p.uh, .slice p.ea p.es.length p.ec] 26) (fun b1 => pA b1) (some 2) (fun _ => by kernel_rfl) (fun b1 hb1 => ?_)
  refine run_new (aO #[iV s.1, iV s.2] 23) (fun b2 => pA b2) (some 3) (fun _ => by kernel_rfl) (fun b2 hb2 => ?_)
  refine run_auto [] 6 [] [] [4, 5, 6] [0, 1] (st' := ⟨[(4, iV 0), (5, iV 0), (6, .func (.func 62) #[] #[pA b1, pA b2])], [(b2, aO #[iV s.1, iV s.2] 23), (b1, aO #[iV p.ll, iV p.lh, iV p.ul, iV p.uh, .slice p.ea p.es.length p.ec] 26)]⟩) (acc := []) (by kernel_rfl) (by kernel_rfl) trivial ?_
  refine run_ret1 61 #[.func (.func 62) #[] #[pA b1, pA b2]] (some 7) (.tuple #[iV (inA (fitsR p s)), iV (erA (fitsR p s))]) (by kernel_rfl) (fun w1 k1 h1 => ans_int 62 #[pA b1, pA b2] w1 (fitsR p s) (fun _ => by kernel_rfl) (fun w2 kk => fits1_any p s b1 b2 w2 ((hp.keep (k1.keeps (fun _ h => h))).keep kk) ((kk.heap (Array.getElem?_eq_some_iff.1 (h1 (b1, aO #[iV p.ll, iV p.lh, iV p.ul, iV p.uh, .slice p.ea p.es.length p.ec] 26) (List.mem_of_getElem? (i := 1) (by kernel_rfl)))).1).trans (h1 (b1, aO #[iV p.ll, iV p.lh, iV p.ul, iV p.uh, .slice p.ea p.es.length p.ec] 26) (List.mem_of_getElem? (i := 1) (by kernel_rfl)))) ((kk.heap (Array.getElem?_eq_some_iff.1 (h1 (b2, aO #[iV s.1, iV s.2] 23) (List.mem_of_getElem? (i := 0) (by kernel_rfl)))).1).trans (h1 (b2, aO #[iV s.1, iV s.2] 23) (List.mem_of_getElem? (i := 0) (by kernel_rfl)))) )) ?_
  refine run_auto [] 5 [] [] [4, 5] [] (st' := ⟨[(4, iV (inA (fitsR p s))), (5, iV (erA (fitsR p s)))], []⟩) (acc := []) (by kernel_rfl) (by kernel_rfl) trivial ?_
  refine run_end (fn := f20) rfl (Nat.le_refl _) (by kernel_rfl) [] [iV (inA (fitsR p s)), iV (erA (fitsR p s))] (e := []) (by kernel_rfl) trivial (fun w1 k1 h1 => ?_)
  exact ⟨rfl, k1.keeps (fun _ h => h)⟩

set_option maxRecDepth 100000 in
theorem Until_any (p : Wb) (m : Int) (w : World) (hp : p.In w)  : Calls Tryz.prog 22 #[.agg #[.int .i64 p.ll, .int .i64 p.lh, .int .i64 p.ul, .int .i64 p.uh, .slice p.ea p.es.length p.ec], .int .i64 m] w (Ret (.tuple #[.int .i64 (inA (untilR p m)), .int .i64 (erA (untilR p m))]) w) := by
  refine calls_run (fn := f22) (c := (f22.body).getD .skip) [.agg #[.int .i64 p.ll, .int .i64 p.lh, .int .i64 p.ul, .int .i64 p.uh, .slice p.ea p.es.length p.ec], .int .i64 m] func22 (by kernel_rfl) (fun _ => False) [] (fun _ h => by cases h) (List.Pairwise.nil) 10 (by kernel_rfl) (by simp) ?_
  refine run_auto [] 2 [] [] [0, 1] [] (st' := ⟨[(0, .agg #[iV p.ll, iV p.lh, iV p.ul, iV p.uh, .slice p.ea p.es.length p.ec]), (1, iV m)], []⟩) (acc := []) (by kernel_rfl) (by kernel_rfl) trivial ?_
  refine run_new (aO #[iV p.ll, iV p.lh, iV p.ul, iV p.uh, .slice p.ea p.es.length p.ec] 26) (fun b1 => pA b1) (some 2) (fun _ => by kernel_rfl) (fun b1 hb1 => ?_)
  refine run_new (aO #[iV m] 3) (fun b2 => pA b2) (some 3) (fun _ => by kernel_rfl) (fun b2 hb2 => ?_)
  refine run_auto [] 6 [] [] [4, 5, 6] [0, 1] (st' := ⟨[(4, iV 0), (5, iV 0), (6, .func (.func 69) #[] #[pA b1, pA b2])], [(b2, aO #[iV m] 3), (b1, aO #[iV p.ll, iV p.lh, iV p.ul, iV p.uh, .slice p.ea p.es.length p.ec] 26)]⟩) (acc := []) (by kernel_rfl) (by kernel_rfl) trivial ?_
  refine run_ret1 61 #[.func (.func 69) #[] #[pA b1, pA b2]] (some 7) (.tuple #[iV (inA (untilR p m)), iV (erA (untilR p m))]) (by kernel_rfl) (fun w1 k1 h1 => ans_int 69 #[pA b1, pA b2] w1 (untilR p m) (fun _ => by kernel_rfl) (fun w2 kk => until1_any p m b1 b2 w2 ((hp.keep (k1.keeps (fun _ h => h))).keep kk) ((kk.heap (Array.getElem?_eq_some_iff.1 (h1 (b1, aO #[iV p.ll, iV p.lh, iV p.ul, iV p.uh, .slice p.ea p.es.length p.ec] 26) (List.mem_of_getElem? (i := 1) (by kernel_rfl)))).1).trans (h1 (b1, aO #[iV p.ll, iV p.lh, iV p.ul, iV p.uh, .slice p.ea p.es.length p.ec] 26) (List.mem_of_getElem? (i := 1) (by kernel_rfl)))) ((kk.heap (Array.getElem?_eq_some_iff.1 (h1 (b2, aO #[iV m] 3) (List.mem_of_getElem? (i := 0) (by kernel_rfl)))).1).trans (h1 (b2, aO #[iV m] 3) (List.mem_of_getElem? (i := 0) (by kernel_rfl)))) )) ?_
  refine run_auto [] 5 [] [] [4, 5] [] (st' := ⟨[(4, iV (inA (untilR p m))), (5, iV (erA (untilR p m)))], []⟩) (acc := []) (by kernel_rfl) (by kernel_rfl) trivial ?_
  refine run_end (fn := f22) rfl (Nat.le_refl _) (by kernel_rfl) [] [iV (inA (untilR p m)), iV (erA (untilR p m))] (e := []) (by kernel_rfl) trivial (fun w1 k1 h1 => ?_)
  exact ⟨rfl, k1.keeps (fun _ h => h)⟩

set_option maxRecDepth 100000 in
theorem Day_any (p : Wb) (m : Int) (L : List Int) (la : Option Addr) (lc : Nat) (w : World) (hp : p.In w) (hL : Ins w la L) (hlc : L.length ≤ lc) : Calls Tryz.prog 24 #[.agg #[.int .i64 p.ll, .int .i64 p.lh, .int .i64 p.ul, .int .i64 p.uh, .slice p.ea p.es.length p.ec], .int .i64 m, .slice la L.length lc] w (Ret (.tuple #[.int .i64 (inA (dayR p m L)), .int .i64 (erA (dayR p m L))]) w) := by
  refine calls_run (fn := f24) (c := (f24.body).getD .skip) [.agg #[.int .i64 p.ll, .int .i64 p.lh, .int .i64 p.ul, .int .i64 p.uh, .slice p.ea p.es.length p.ec], .int .i64 m, .slice la L.length lc] func24 (by kernel_rfl) (fun _ => False) [] (fun _ h => by cases h) (List.Pairwise.nil) 12 (by kernel_rfl) (by simp) ?_
  refine run_auto [] 2 [] [] [0, 1, 2] [] (st' := ⟨[(0, .agg #[iV p.ll, iV p.lh, iV p.ul, iV p.uh, .slice p.ea p.es.length p.ec]), (1, iV m), (2, .slice la L.length lc)], []⟩) (acc := []) (by kernel_rfl) (by kernel_rfl) trivial ?_
  refine run_new (aO #[iV p.ll, iV p.lh, iV p.ul, iV p.uh, .slice p.ea p.es.length p.ec] 26) (fun b1 => pA b1) (some 3) (fun _ => by kernel_rfl) (fun b1 hb1 => ?_)
  refine run_new (aO #[iV m] 3) (fun b2 => pA b2) (some 4) (fun _ => by kernel_rfl) (fun b2 hb2 => ?_)
  refine run_new (aO #[.slice la L.length lc] 38) (fun b3 => pA b3) (some 5) (fun _ => by kernel_rfl) (fun b3 hb3 => ?_)
  refine run_auto [] 6 [] [] [6, 7, 8] [0, 1, 2] (st' := ⟨[(6, iV 0), (7, iV 0), (8, .func (.func 75) #[] #[pA b1, pA b3, pA b2])], [(b3, aO #[.slice la L.length lc] 38), (b2, aO #[iV m] 3), (b1, aO #[iV p.ll, iV p.lh, iV p.ul, iV p.uh, .slice p.ea p.es.length p.ec] 26)]⟩) (acc := []) (by kernel_rfl) (by kernel_rfl) trivial ?_
  refine run_ret1 61 #[.func (.func 75) #[] #[pA b1, pA b3, pA b2]] (some 9) (.tuple #[iV (inA (dayR p m L)), iV (erA (dayR p m L))]) (by kernel_rfl) (fun w1 k1 h1 => ans_int 75 #[pA b1, pA b3, pA b2] w1 (dayR p m L) (fun _ => by kernel_rfl) (fun w2 kk => day1_any p L la lc m b1 b3 b2 w2 ((hp.keep (k1.keeps (fun _ h => h))).keep kk) ((kk.heap (Array.getElem?_eq_some_iff.1 (h1 (b1, aO #[iV p.ll, iV p.lh, iV p.ul, iV p.uh, .slice p.ea p.es.length p.ec] 26) (List.mem_of_getElem? (i := 2) (by kernel_rfl)))).1).trans (h1 (b1, aO #[iV p.ll, iV p.lh, iV p.ul, iV p.uh, .slice p.ea p.es.length p.ec] 26) (List.mem_of_getElem? (i := 2) (by kernel_rfl)))) ((kk.heap (Array.getElem?_eq_some_iff.1 (h1 (b3, aO #[.slice la L.length lc] 38) (List.mem_of_getElem? (i := 0) (by kernel_rfl)))).1).trans (h1 (b3, aO #[.slice la L.length lc] 38) (List.mem_of_getElem? (i := 0) (by kernel_rfl)))) ((kk.heap (Array.getElem?_eq_some_iff.1 (h1 (b2, aO #[iV m] 3) (List.mem_of_getElem? (i := 1) (by kernel_rfl)))).1).trans (h1 (b2, aO #[iV m] 3) (List.mem_of_getElem? (i := 1) (by kernel_rfl)))) ((hL.keep (k1.keeps (fun _ h => h))).keep kk) hlc)) ?_
  refine run_auto [] 5 [] [] [6, 7] [] (st' := ⟨[(6, iV (inA (dayR p m L))), (7, iV (erA (dayR p m L)))], []⟩) (acc := []) (by kernel_rfl) (by kernel_rfl) trivial ?_
  refine run_end (fn := f24) rfl (Nat.le_refl _) (by kernel_rfl) [] [iV (inA (dayR p m L)), iV (erA (dayR p m L))] (e := []) (by kernel_rfl) trivial (fun w1 k1 h1 => ?_)
  exact ⟨rfl, k1.keeps (fun _ h => h)⟩

end Go.Proofs.YtdehgplklgfcdaaGreat
