/-
  answer: what the work returns, or the error that it panics with.
-/
import Derived.Test.YtmhpgjlegajpeaaA3
import Derived.Defers
import Derived.Recover
namespace Go.Proofs.Ytmhpgjlegajpeaa
open Go.RowKit
theorem run_errno (k : Int) (w : World) : (Instr.typeAssert (.iface 29 (.int .i64 k)) 20 29 true).run Try.prog w = .ok (.tuple #[.int .i64 k, .bool true]) w := by kernel_rfl
set_option maxHeartbeats 400000 in
theorem errorOf_any (k : Int) (w : World) : Calls Try.prog 93 #[.iface 29 (.int .i64 k)] w fun e w' => e = .returned (.int .i64 k) ∧ w = w' := by
  have h := run_errno k
  go_enter Try.func93, Try.ntmps93
  go_wp2
  go_ret
  exact ⟨rfl, rfl⟩

theorem catch_pan_int (p : Addr) (k : Int) (older : List PanicEntry) (w : World) (hc : w.cell? p = some (.int .i64 0)) (hz : w.frozen? p = false) :
    CallsD Try.prog 102 #[.pointer (some p)] (.panicking ({ v := .iface 29 (.int .i64 k), recovered := false } :: older)) w fun e u' w' =>
      e = .returned (.tuple #[]) ∧ u' = .panicking ({ v := .iface 29 (.int .i64 k), recovered := true } :: older) ∧ w' = w.setCell p (.int .i64 k) := by
  refine callsD_of_wpS Try.func102 rfl fun c₀ cs hu => ?_
  apply wpS_seq
  apply wpS_region
  simp [wpOpsS, go_sem, recoverD, hu, Try.ntmps102, Exit.thenS]
  refine wpS_of_wp ?_
  go_wp2_with (go_at_call 93; refine (errorOf_any k _).mono ?_; rintro e w' ⟨rfl, rfl⟩)
  simp [bodyPostS, results, Try.results102]
theorem catch_idle_int (p : Addr) (w : World) :
    CallsD Try.prog 102 #[.pointer (some p)] .returning w fun e u' w' => e = .returned (.tuple #[]) ∧ u' = .returning ∧ w = w' := by
  refine callsD_of_wpS Try.func102 rfl fun c₀ cs hu => ?_
  apply wpS_seq
  apply wpS_region
  simp [wpOpsS, go_sem, recoverD, hu, Try.ntmps102, Exit.thenS]
  refine wpS_of_wp ?_
  go_wp2_with fail
  cases c₀
  simp_all [bodyPostS, results, Try.results102]
set_option maxHeartbeats 400000 in
theorem answer_ok_int (K : Nat) (caps : Array Value) (w : World) (R : Value → World → Prop) (hcf : ∀ w, (callFunc K caps).run Try.prog w = .ok (.enter K caps) w)
    (hR : ∀ v wa u, R v wa → R v (wa.setCell ⟨w.heap.size, 0, none⟩ u))
    (h : Calls Try.prog K caps (w.alloc (.cells #[.int .i64 0] 29)) (fun e w' => ∃ v, e = .returned v ∧ R v w' ∧ Keeps (w.alloc (.cells #[.int .i64 0] 29)) w')) :
    Calls Try.prog 69 #[.func (.func K) #[] caps] w (fun e w' => ∃ v, e = .returned (.tuple #[v, .int .i64 0]) ∧ R v w' ∧ Keeps w w') := by
  have hmf : ∀ (fn : Fn) (first cap : Array Value) (w : World), (Instr.makeFunc fn first cap).run Try.prog w = .ok (.func fn first cap) w := fun _ _ _ _ => rfl
  have HR := Lib.hid hR
  clear hR
  go_enter_defers Try.func69, Try.ntmps69
  go_wp2_with fail
  refine h.mono ?_
  rintro e w1 ⟨v, rfl, hR1, hk⟩
  have hc1 := hk.cells
  have hz1 : w.heap.size < w1.heap.size := by have := hk.size; simp at this; omega
  go_wp2_with fail
  refine leaves_cons (f := 102) (args := #[.pointer (some ⟨w.heap.size, 0, none⟩)]) (by simp) (by simp [go_sem]) ?_
  refine (catch_idle_int ⟨w.heap.size, 0, none⟩ _).mono ?_
  rintro e u' w'' ⟨rfl, rfl, rfl⟩
  refine ⟨.tuple #[v, .int .i64 0], ?_, v, rfl, HR.out _ _ _ hR1, (((Keeps.refl _).alloc _).trans hk).setCell _ (Nat.le_refl _)⟩
  have hc2 : (w1.setCell ⟨w.heap.size, 0, none⟩ (.int .i64 0)).cell? ⟨w.heap.size, 0, none⟩ = some (.int .i64 0) := World.cell?_setCell_same' _ _ _ (by rw [hc1.1 _ _ (by simp)]; simp)
  simp [results, Try.results69, go_sem, hc2]
set_option maxHeartbeats 400000 in
theorem answer_pan_int (K : Nat) (caps : Array Value) (w : World) (k : Int) (hcf : ∀ w, (callFunc K caps).run Try.prog w = .ok (.enter K caps) w)
    (h : Calls Try.prog K caps (w.alloc (.cells #[.int .i64 0] 29)) (Pan k (w.alloc (.cells #[.int .i64 0] 29)))) :
    Calls Try.prog 69 #[.func (.func K) #[] caps] w (Ret (.tuple #[.int .i64 0, .int .i64 k]) w) := by
  have hmf : ∀ (fn : Fn) (first cap : Array Value) (w : World), (Instr.makeFunc fn first cap).run Try.prog w = .ok (.func fn first cap) w := fun _ _ _ _ => rfl
  go_enter_defers Try.func69, Try.ntmps69
  go_wp2_with fail
  refine h.mono ?_
  rintro e w1 ⟨rfl, hk⟩
  have hc1 := hk.cells
  have hz1 : w.heap.size < w1.heap.size := by have := hk.size; simp at this; omega
  refine leaves_cons (f := 102) (args := #[.pointer (some ⟨w.heap.size, 0, none⟩)]) (by simp) (by simp [go_sem]) ?_
  refine (catch_pan_int ⟨w.heap.size, 0, none⟩ k [] _ ?_ ?_).mono ?_
  · rw [hc1.1 _ _ (by simp)]; simp [go_sem]
  · rw [hc1.2 _ _ (by simp)]; simp [go_sem]
  rintro e u' w'' ⟨rfl, rfl, rfl⟩
  refine ⟨.tuple #[.int .i64 0, .int .i64 k], ?_, rfl, (((Keeps.refl _).alloc _).trans hk).setCell _ (Nat.le_refl _)⟩
  have hc2 : (w1.setCell ⟨w.heap.size, 0, none⟩ (.int .i64 k)).cell? ⟨w.heap.size, 0, none⟩ = some (.int .i64 k) := World.cell?_setCell_same' _ _ _ (by rw [hc1.1 _ _ (by simp)]; simp [go_sem])
  simp [results, Try.results69, go_sem, hc2]
theorem catch_pan_span (p : Addr) (k : Int) (older : List PanicEntry) (w : World) (hc : w.cell? p = some (.int .i64 0)) (hz : w.frozen? p = false) :
    CallsD Try.prog 92 #[.pointer (some p)] (.panicking ({ v := .iface 29 (.int .i64 k), recovered := false } :: older)) w fun e u' w' =>
      e = .returned (.tuple #[]) ∧ u' = .panicking ({ v := .iface 29 (.int .i64 k), recovered := true } :: older) ∧ w' = w.setCell p (.int .i64 k) := by
  refine callsD_of_wpS Try.func92 rfl fun c₀ cs hu => ?_
  apply wpS_seq
  apply wpS_region
  simp [wpOpsS, go_sem, recoverD, hu, Try.ntmps92, Exit.thenS]
  refine wpS_of_wp ?_
  go_wp2_with (go_at_call 93; refine (errorOf_any k _).mono ?_; rintro e w' ⟨rfl, rfl⟩)
  simp [bodyPostS, results, Try.results92]
theorem catch_idle_span (p : Addr) (w : World) :
    CallsD Try.prog 92 #[.pointer (some p)] .returning w fun e u' w' => e = .returned (.tuple #[]) ∧ u' = .returning ∧ w = w' := by
  refine callsD_of_wpS Try.func92 rfl fun c₀ cs hu => ?_
  apply wpS_seq
  apply wpS_region
  simp [wpOpsS, go_sem, recoverD, hu, Try.ntmps92, Exit.thenS]
  refine wpS_of_wp ?_
  go_wp2_with fail
  cases c₀
  simp_all [bodyPostS, results, Try.results92]
set_option maxHeartbeats 400000 in
theorem answer_ok_span (K : Nat) (caps : Array Value) (w : World) (x y : Int) (hcf : ∀ w, (callFunc K caps).run Try.prog w = .ok (.enter K caps) w)
    (h : Calls Try.prog K caps ((w.alloc (.cells #[.int .i64 0, .int .i64 0] 23)).alloc (.cells #[.int .i64 0] 29)) (Ret (.agg #[.int .i64 x, .int .i64 y]) ((w.alloc (.cells #[.int .i64 0, .int .i64 0] 23)).alloc (.cells #[.int .i64 0] 29)))) :
    Calls Try.prog 46 #[.func (.func K) #[] caps] w (Ret (.tuple #[.agg #[.int .i64 x, .int .i64 y], .int .i64 0]) w) := by
  have hmf : ∀ (fn : Fn) (first cap : Array Value) (w : World), (Instr.makeFunc fn first cap).run Try.prog w = .ok (.func fn first cap) w := fun _ _ _ _ => rfl
  go_enter_defers Try.func46, Try.ntmps46
  go_wp2_with fail
  refine h.mono ?_
  rintro e w1 ⟨rfl, hk⟩
  have hc1 := hk.cells
  have hz1 : w.heap.size < w1.heap.size := by have := hk.size; simp at this; omega
  have hz2 : w.heap.size + 1 < w1.heap.size := by have := hk.size; simp at this; omega
  go_wp2_with fail
  refine leaves_cons (f := 92) (args := #[.pointer (some ⟨w.heap.size + 1, 0, none⟩)]) (by simp) (by simp [go_sem]) ?_
  refine (catch_idle_span ⟨w.heap.size + 1, 0, none⟩ _).mono ?_
  rintro e u' w'' ⟨rfl, rfl, rfl⟩
  refine ⟨.tuple #[.agg #[.int .i64 x, .int .i64 y], .int .i64 0], ?_, rfl, ((((((Keeps.refl _).alloc _).alloc _).trans hk).setCell _ (Nat.le_refl _)).setCell _ (Nat.le_refl _)).setCell _ (Nat.le_succ _)⟩
  have s0 : (w1.cell? ⟨w.heap.size, 0, none⟩).isSome = true := by rw [hc1.1 _ _ (by simp; omega)]; simp [go_sem]
  have s1 : (w1.cell? ⟨w.heap.size, 1, none⟩).isSome = true := by rw [hc1.1 _ _ (by simp; omega)]; simp [go_sem]
  have s2 : (w1.cell? ⟨w.heap.size + 1, 0, none⟩).isSome = true := by rw [hc1.1 _ _ (by simp)]; simp [go_sem]
  have q0 : (((w1.setCell ⟨w.heap.size, 0, none⟩ (.int .i64 x)).setCell ⟨w.heap.size, 1, none⟩ (.int .i64 y)).setCell ⟨w.heap.size + 1, 0, none⟩ (.int .i64 0)).cell? ⟨w.heap.size, 0, none⟩ = some (.int .i64 x) := by
    exact (cell_set_other (by omega)).trans ((cell_set_other (by omega)).trans (cell_set_same s0))
  have q1 : (((w1.setCell ⟨w.heap.size, 0, none⟩ (.int .i64 x)).setCell ⟨w.heap.size, 1, none⟩ (.int .i64 y)).setCell ⟨w.heap.size + 1, 0, none⟩ (.int .i64 0)).cell? ⟨w.heap.size, 1, none⟩ = some (.int .i64 y) := by
    exact (cell_set_other (by omega)).trans (cell_set_same (by rw [cell_set_other (by omega)]; exact s1))
  have q2 : (((w1.setCell ⟨w.heap.size, 0, none⟩ (.int .i64 x)).setCell ⟨w.heap.size, 1, none⟩ (.int .i64 y)).setCell ⟨w.heap.size + 1, 0, none⟩ (.int .i64 0)).cell? ⟨w.heap.size + 1, 0, none⟩ = some (.int .i64 0) := by
    exact cell_set_same (by rw [cell_set_other (by omega), cell_set_other (by omega)]; exact s2)
  simp [results, Try.results46, go_sem, q0, q1, q2]
set_option maxHeartbeats 400000 in
theorem answer_pan_span (K : Nat) (caps : Array Value) (w : World) (k : Int) (hcf : ∀ w, (callFunc K caps).run Try.prog w = .ok (.enter K caps) w)
    (h : Calls Try.prog K caps ((w.alloc (.cells #[.int .i64 0, .int .i64 0] 23)).alloc (.cells #[.int .i64 0] 29)) (Pan k ((w.alloc (.cells #[.int .i64 0, .int .i64 0] 23)).alloc (.cells #[.int .i64 0] 29)))) :
    Calls Try.prog 46 #[.func (.func K) #[] caps] w (Ret (.tuple #[.agg #[.int .i64 0, .int .i64 0], .int .i64 k]) w) := by
  have hmf : ∀ (fn : Fn) (first cap : Array Value) (w : World), (Instr.makeFunc fn first cap).run Try.prog w = .ok (.func fn first cap) w := fun _ _ _ _ => rfl
  go_enter_defers Try.func46, Try.ntmps46
  go_wp2_with fail
  refine h.mono ?_
  rintro e w1 ⟨rfl, hk⟩
  have hc1 := hk.cells
  have hz1 : w.heap.size < w1.heap.size := by have := hk.size; simp at this; omega
  refine leaves_cons (f := 92) (args := #[.pointer (some ⟨w.heap.size + 1, 0, none⟩)]) (by simp) (by simp [go_sem]) ?_
  refine (catch_pan_span ⟨w.heap.size + 1, 0, none⟩ k [] _ ?_ ?_).mono ?_
  · rw [hc1.1 _ _ (by simp)]; simp [go_sem]
  · rw [hc1.2 _ _ (by simp)]; simp [go_sem]
  rintro e u' w'' ⟨rfl, rfl, rfl⟩
  refine ⟨.tuple #[.agg #[.int .i64 0, .int .i64 0], .int .i64 k], ?_, rfl, ((((Keeps.refl _).alloc _).alloc _).trans hk).setCell _ (Nat.le_succ _)⟩
  have hc2 : (w1.setCell ⟨w.heap.size + 1, 0, none⟩ (.int .i64 k)).cell? ⟨w.heap.size + 1, 0, none⟩ = some (.int .i64 k) := World.cell?_setCell_same' _ _ _ (by rw [hc1.1 _ _ (by simp)]; simp [go_sem])
  have q0 : (w1.setCell ⟨w.heap.size + 1, 0, none⟩ (.int .i64 k)).cell? ⟨w.heap.size, 0, none⟩ = some (.int .i64 0) := by
    rw [cell_set_other (by omega), hc1.1 _ _ (by simp; omega)]; simp [go_sem]
  have q1 : (w1.setCell ⟨w.heap.size + 1, 0, none⟩ (.int .i64 k)).cell? ⟨w.heap.size, 1, none⟩ = some (.int .i64 0) := by
    rw [cell_set_other (by omega), hc1.1 _ _ (by simp; omega)]; simp [go_sem]
  simp [results, Try.results46, go_sem, hc2, q0, q1]
theorem catch_pan_won (p : Addr) (k : Int) (older : List PanicEntry) (w : World) (hc : w.cell? p = some (.int .i64 0)) (hz : w.frozen? p = false) :
    CallsD Try.prog 105 #[.pointer (some p)] (.panicking ({ v := .iface 29 (.int .i64 k), recovered := false } :: older)) w fun e u' w' =>
      e = .returned (.tuple #[]) ∧ u' = .panicking ({ v := .iface 29 (.int .i64 k), recovered := true } :: older) ∧ w' = w.setCell p (.int .i64 k) := by
  refine callsD_of_wpS Try.func105 rfl fun c₀ cs hu => ?_
  apply wpS_seq
  apply wpS_region
  simp [wpOpsS, go_sem, recoverD, hu, Try.ntmps105, Exit.thenS]
  refine wpS_of_wp ?_
  go_wp2_with (go_at_call 93; refine (errorOf_any k _).mono ?_; rintro e w' ⟨rfl, rfl⟩)
  simp [bodyPostS, results, Try.results105]
theorem catch_idle_won (p : Addr) (w : World) :
    CallsD Try.prog 105 #[.pointer (some p)] .returning w fun e u' w' => e = .returned (.tuple #[]) ∧ u' = .returning ∧ w = w' := by
  refine callsD_of_wpS Try.func105 rfl fun c₀ cs hu => ?_
  apply wpS_seq
  apply wpS_region
  simp [wpOpsS, go_sem, recoverD, hu, Try.ntmps105, Exit.thenS]
  refine wpS_of_wp ?_
  go_wp2_with fail
  cases c₀
  simp_all [bodyPostS, results, Try.results105]
set_option maxHeartbeats 400000 in
theorem answer_ok_won (K : Nat) (caps : Array Value) (w : World) (x y : Int) (hcf : ∀ w, (callFunc K caps).run Try.prog w = .ok (.enter K caps) w)
    (h : Calls Try.prog K caps ((w.alloc (.cells #[.int .i64 0, .int .i64 0] 112)).alloc (.cells #[.int .i64 0] 29)) (Ret (.agg #[.int .i64 x, .int .i64 y]) ((w.alloc (.cells #[.int .i64 0, .int .i64 0] 112)).alloc (.cells #[.int .i64 0] 29)))) :
    Calls Try.prog 78 #[.func (.func K) #[] caps] w (Ret (.tuple #[.agg #[.int .i64 x, .int .i64 y], .int .i64 0]) w) := by
  have hmf : ∀ (fn : Fn) (first cap : Array Value) (w : World), (Instr.makeFunc fn first cap).run Try.prog w = .ok (.func fn first cap) w := fun _ _ _ _ => rfl
  go_enter_defers Try.func78, Try.ntmps78
  go_wp2_with fail
  refine h.mono ?_
  rintro e w1 ⟨rfl, hk⟩
  have hc1 := hk.cells
  have hz1 : w.heap.size < w1.heap.size := by have := hk.size; simp at this; omega
  have hz2 : w.heap.size + 1 < w1.heap.size := by have := hk.size; simp at this; omega
  go_wp2_with fail
  refine leaves_cons (f := 105) (args := #[.pointer (some ⟨w.heap.size + 1, 0, none⟩)]) (by simp) (by simp [go_sem]) ?_
  refine (catch_idle_won ⟨w.heap.size + 1, 0, none⟩ _).mono ?_
  rintro e u' w'' ⟨rfl, rfl, rfl⟩
  refine ⟨.tuple #[.agg #[.int .i64 x, .int .i64 y], .int .i64 0], ?_, rfl, ((((((Keeps.refl _).alloc _).alloc _).trans hk).setCell _ (Nat.le_refl _)).setCell _ (Nat.le_refl _)).setCell _ (Nat.le_succ _)⟩
  have s0 : (w1.cell? ⟨w.heap.size, 0, none⟩).isSome = true := by rw [hc1.1 _ _ (by simp; omega)]; simp [go_sem]
  have s1 : (w1.cell? ⟨w.heap.size, 1, none⟩).isSome = true := by rw [hc1.1 _ _ (by simp; omega)]; simp [go_sem]
  have s2 : (w1.cell? ⟨w.heap.size + 1, 0, none⟩).isSome = true := by rw [hc1.1 _ _ (by simp)]; simp [go_sem]
  have q0 : (((w1.setCell ⟨w.heap.size, 0, none⟩ (.int .i64 x)).setCell ⟨w.heap.size, 1, none⟩ (.int .i64 y)).setCell ⟨w.heap.size + 1, 0, none⟩ (.int .i64 0)).cell? ⟨w.heap.size, 0, none⟩ = some (.int .i64 x) := by
    exact (cell_set_other (by omega)).trans ((cell_set_other (by omega)).trans (cell_set_same s0))
  have q1 : (((w1.setCell ⟨w.heap.size, 0, none⟩ (.int .i64 x)).setCell ⟨w.heap.size, 1, none⟩ (.int .i64 y)).setCell ⟨w.heap.size + 1, 0, none⟩ (.int .i64 0)).cell? ⟨w.heap.size, 1, none⟩ = some (.int .i64 y) := by
    exact (cell_set_other (by omega)).trans (cell_set_same (by rw [cell_set_other (by omega)]; exact s1))
  have q2 : (((w1.setCell ⟨w.heap.size, 0, none⟩ (.int .i64 x)).setCell ⟨w.heap.size, 1, none⟩ (.int .i64 y)).setCell ⟨w.heap.size + 1, 0, none⟩ (.int .i64 0)).cell? ⟨w.heap.size + 1, 0, none⟩ = some (.int .i64 0) := by
    exact cell_set_same (by rw [cell_set_other (by omega), cell_set_other (by omega)]; exact s2)
  simp [results, Try.results78, go_sem, q0, q1, q2]
set_option maxHeartbeats 400000 in
theorem answer_pan_won (K : Nat) (caps : Array Value) (w : World) (k : Int) (hcf : ∀ w, (callFunc K caps).run Try.prog w = .ok (.enter K caps) w)
    (h : Calls Try.prog K caps ((w.alloc (.cells #[.int .i64 0, .int .i64 0] 112)).alloc (.cells #[.int .i64 0] 29)) (Pan k ((w.alloc (.cells #[.int .i64 0, .int .i64 0] 112)).alloc (.cells #[.int .i64 0] 29)))) :
    Calls Try.prog 78 #[.func (.func K) #[] caps] w (Ret (.tuple #[.agg #[.int .i64 0, .int .i64 0], .int .i64 k]) w) := by
  have hmf : ∀ (fn : Fn) (first cap : Array Value) (w : World), (Instr.makeFunc fn first cap).run Try.prog w = .ok (.func fn first cap) w := fun _ _ _ _ => rfl
  go_enter_defers Try.func78, Try.ntmps78
  go_wp2_with fail
  refine h.mono ?_
  rintro e w1 ⟨rfl, hk⟩
  have hc1 := hk.cells
  have hz1 : w.heap.size < w1.heap.size := by have := hk.size; simp at this; omega
  refine leaves_cons (f := 105) (args := #[.pointer (some ⟨w.heap.size + 1, 0, none⟩)]) (by simp) (by simp [go_sem]) ?_
  refine (catch_pan_won ⟨w.heap.size + 1, 0, none⟩ k [] _ ?_ ?_).mono ?_
  · rw [hc1.1 _ _ (by simp)]; simp [go_sem]
  · rw [hc1.2 _ _ (by simp)]; simp [go_sem]
  rintro e u' w'' ⟨rfl, rfl, rfl⟩
  refine ⟨.tuple #[.agg #[.int .i64 0, .int .i64 0], .int .i64 k], ?_, rfl, ((((Keeps.refl _).alloc _).alloc _).trans hk).setCell _ (Nat.le_succ _)⟩
  have hc2 : (w1.setCell ⟨w.heap.size + 1, 0, none⟩ (.int .i64 k)).cell? ⟨w.heap.size + 1, 0, none⟩ = some (.int .i64 k) := World.cell?_setCell_same' _ _ _ (by rw [hc1.1 _ _ (by simp)]; simp [go_sem])
  have q0 : (w1.setCell ⟨w.heap.size + 1, 0, none⟩ (.int .i64 k)).cell? ⟨w.heap.size, 0, none⟩ = some (.int .i64 0) := by
    rw [cell_set_other (by omega), hc1.1 _ _ (by simp; omega)]; simp [go_sem]
  have q1 : (w1.setCell ⟨w.heap.size + 1, 0, none⟩ (.int .i64 k)).cell? ⟨w.heap.size, 1, none⟩ = some (.int .i64 0) := by
    rw [cell_set_other (by omega), hc1.1 _ _ (by simp; omega)]; simp [go_sem]
  simp [results, Try.results78, go_sem, hc2, q0, q1]
end Go.Proofs.Ytmhpgjlegajpeaa
