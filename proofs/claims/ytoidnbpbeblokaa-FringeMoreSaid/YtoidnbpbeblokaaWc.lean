/-
  answer: what the work returns, or the error that it panics with.
-/
import Derived.Test.YtoidnbpbeblokaaWb
import Derived.Defers
import Derived.Recover
namespace Go.Proofs.Ytoidnbpbeblokaa
open Go.RowKit
theorem run_errno (k : Int) (w : World) : (Instr.typeAssert (.iface 30 (.int .i64 k)) 20 30 true).run Try.prog w = .ok (.tuple #[.int .i64 k, .bool true]) w := by kernel_rfl
set_option maxHeartbeats 400000 in
theorem errorOf_any (k : Int) (w : World) : Calls Try.prog 89 #[.iface 30 (.int .i64 k)] w fun e w' => e = .returned (.int .i64 k) ∧ w = w' := by
  have h := run_errno k
  go_enter Try.func89, Try.ntmps89
  go_wp2
  go_ret
  exact ⟨rfl, rfl⟩

theorem catch_pan_int (p : Addr) (k : Int) (older : List PanicEntry) (w : World) (hc : w.cell? p = some (.int .i64 0)) (hz : w.frozen? p = false) :
    CallsD Try.prog 103 #[.pointer (some p)] (.panicking ({ v := .iface 30 (.int .i64 k), recovered := false } :: older)) w fun e u' w' =>
      e = .returned (.tuple #[]) ∧ u' = .panicking ({ v := .iface 30 (.int .i64 k), recovered := true } :: older) ∧ w' = w.setCell p (.int .i64 k) := by
  refine callsD_of_wpS Try.func103 rfl fun c₀ cs hu => ?_
  apply wpS_seq
  apply wpS_region
  simp [wpOpsS, go_sem, recoverD, hu, Try.ntmps103, Exit.thenS]
  refine wpS_of_wp ?_
  go_wp2_with (go_at_call 89; refine (errorOf_any k _).mono ?_; rintro e w' ⟨rfl, rfl⟩)
  simp [bodyPostS, results, Try.results103]
theorem catch_idle_int (p : Addr) (w : World) :
    CallsD Try.prog 103 #[.pointer (some p)] .returning w fun e u' w' => e = .returned (.tuple #[]) ∧ u' = .returning ∧ w = w' := by
  refine callsD_of_wpS Try.func103 rfl fun c₀ cs hu => ?_
  apply wpS_seq
  apply wpS_region
  simp [wpOpsS, go_sem, recoverD, hu, Try.ntmps103, Exit.thenS]
  refine wpS_of_wp ?_
  go_wp2_with fail
  cases c₀
  simp_all [bodyPostS, results, Try.results103]
set_option maxHeartbeats 400000 in
theorem answer_ok_int (K : Nat) (caps : Array Value) (w : World) (R : Value → World → Prop) (hcf : ∀ w, (callFunc K caps).run Try.prog w = .ok (.enter K caps) w)
    (hR : ∀ v wa u, R v wa → R v (wa.setCell ⟨w.heap.size, 0, none⟩ u))
    (h : Calls Try.prog K caps (w.alloc (.cells #[.int .i64 0] 30)) (fun e w' => ∃ v, e = .returned v ∧ R v w' ∧ Keeps (w.alloc (.cells #[.int .i64 0] 30)) w')) :
    Calls Try.prog 61 #[.func (.func K) #[] caps] w (fun e w' => ∃ v, e = .returned (.tuple #[v, .int .i64 0]) ∧ R v w' ∧ Keeps w w') := by
  have hmf : ∀ (fn : Fn) (first cap : Array Value) (w : World), (Instr.makeFunc fn first cap).run Try.prog w = .ok (.func fn first cap) w := fun _ _ _ _ => rfl
  have HR := Lib.hid hR
  clear hR
  go_enter_defers Try.func61, Try.ntmps61
  go_wp2_with fail
  refine h.mono ?_
  rintro e w1 ⟨v, rfl, hR1, hk⟩
  have hc1 := hk.cells
  have hz1 : w.heap.size < w1.heap.size := by have := hk.size; simp at this; omega
  go_wp2_with fail
  refine leaves_cons (f := 103) (args := #[.pointer (some ⟨w.heap.size, 0, none⟩)]) (by simp) (by simp [go_sem]) ?_
  refine (catch_idle_int ⟨w.heap.size, 0, none⟩ _).mono ?_
  rintro e u' w'' ⟨rfl, rfl, rfl⟩
  refine ⟨.tuple #[v, .int .i64 0], ?_, v, rfl, HR.out _ _ _ hR1, (((Keeps.refl _).alloc _).trans hk).setCell _ (Nat.le_refl _)⟩
  have hc2 : (w1.setCell ⟨w.heap.size, 0, none⟩ (.int .i64 0)).cell? ⟨w.heap.size, 0, none⟩ = some (.int .i64 0) := World.cell?_setCell_same' _ _ _ (by rw [hc1.1 _ _ (by simp)]; simp)
  simp [results, Try.results61, go_sem, hc2]
set_option maxHeartbeats 400000 in
theorem answer_pan_int (K : Nat) (caps : Array Value) (w : World) (k : Int) (hcf : ∀ w, (callFunc K caps).run Try.prog w = .ok (.enter K caps) w)
    (h : Calls Try.prog K caps (w.alloc (.cells #[.int .i64 0] 30)) (Pan k (w.alloc (.cells #[.int .i64 0] 30)))) :
    Calls Try.prog 61 #[.func (.func K) #[] caps] w (Ret (.tuple #[.int .i64 0, .int .i64 k]) w) := by
  have hmf : ∀ (fn : Fn) (first cap : Array Value) (w : World), (Instr.makeFunc fn first cap).run Try.prog w = .ok (.func fn first cap) w := fun _ _ _ _ => rfl
  go_enter_defers Try.func61, Try.ntmps61
  go_wp2_with fail
  refine h.mono ?_
  rintro e w1 ⟨rfl, hk⟩
  have hc1 := hk.cells
  have hz1 : w.heap.size < w1.heap.size := by have := hk.size; simp at this; omega
  refine leaves_cons (f := 103) (args := #[.pointer (some ⟨w.heap.size, 0, none⟩)]) (by simp) (by simp [go_sem]) ?_
  refine (catch_pan_int ⟨w.heap.size, 0, none⟩ k [] _ ?_ ?_).mono ?_
  · rw [hc1.1 _ _ (by simp)]; simp [go_sem]
  · rw [hc1.2 _ _ (by simp)]; simp [go_sem]
  rintro e u' w'' ⟨rfl, rfl, rfl⟩
  refine ⟨.tuple #[.int .i64 0, .int .i64 k], ?_, rfl, (((Keeps.refl _).alloc _).trans hk).setCell _ (Nat.le_refl _)⟩
  have hc2 : (w1.setCell ⟨w.heap.size, 0, none⟩ (.int .i64 k)).cell? ⟨w.heap.size, 0, none⟩ = some (.int .i64 k) := World.cell?_setCell_same' _ _ _ (by rw [hc1.1 _ _ (by simp)]; simp [go_sem])
  simp [results, Try.results61, go_sem, hc2]
theorem catch_pan_set (p : Addr) (k : Int) (older : List PanicEntry) (w : World) (hc : w.cell? p = some (.int .i64 0)) (hz : w.frozen? p = false) :
    CallsD Try.prog 95 #[.pointer (some p)] (.panicking ({ v := .iface 30 (.int .i64 k), recovered := false } :: older)) w fun e u' w' =>
      e = .returned (.tuple #[]) ∧ u' = .panicking ({ v := .iface 30 (.int .i64 k), recovered := true } :: older) ∧ w' = w.setCell p (.int .i64 k) := by
  refine callsD_of_wpS Try.func95 rfl fun c₀ cs hu => ?_
  apply wpS_seq
  apply wpS_region
  simp [wpOpsS, go_sem, recoverD, hu, Try.ntmps95, Exit.thenS]
  refine wpS_of_wp ?_
  go_wp2_with (go_at_call 89; refine (errorOf_any k _).mono ?_; rintro e w' ⟨rfl, rfl⟩)
  simp [bodyPostS, results, Try.results95]
theorem catch_idle_set (p : Addr) (w : World) :
    CallsD Try.prog 95 #[.pointer (some p)] .returning w fun e u' w' => e = .returned (.tuple #[]) ∧ u' = .returning ∧ w = w' := by
  refine callsD_of_wpS Try.func95 rfl fun c₀ cs hu => ?_
  apply wpS_seq
  apply wpS_region
  simp [wpOpsS, go_sem, recoverD, hu, Try.ntmps95, Exit.thenS]
  refine wpS_of_wp ?_
  go_wp2_with fail
  cases c₀
  simp_all [bodyPostS, results, Try.results95]
set_option maxHeartbeats 400000 in
theorem answer_ok_set (K : Nat) (caps : Array Value) (w : World) (R : Value → World → Prop) (hcf : ∀ w, (callFunc K caps).run Try.prog w = .ok (.enter K caps) w)
    (hR : ∀ v wa u, R v wa → R v (wa.setCell ⟨w.heap.size, 0, none⟩ u))
    (h : Calls Try.prog K caps (w.alloc (.cells #[.int .i64 0] 30)) (fun e w' => ∃ v, e = .returned v ∧ R v w' ∧ Keeps (w.alloc (.cells #[.int .i64 0] 30)) w')) :
    Calls Try.prog 49 #[.func (.func K) #[] caps] w (fun e w' => ∃ v, e = .returned (.tuple #[v, .int .i64 0]) ∧ R v w' ∧ Keeps w w') := by
  have hmf : ∀ (fn : Fn) (first cap : Array Value) (w : World), (Instr.makeFunc fn first cap).run Try.prog w = .ok (.func fn first cap) w := fun _ _ _ _ => rfl
  have HR := Lib.hid hR
  clear hR
  go_enter_defers Try.func49, Try.ntmps49
  go_wp2_with fail
  refine h.mono ?_
  rintro e w1 ⟨v, rfl, hR1, hk⟩
  have hc1 := hk.cells
  have hz1 : w.heap.size < w1.heap.size := by have := hk.size; simp at this; omega
  go_wp2_with fail
  refine leaves_cons (f := 95) (args := #[.pointer (some ⟨w.heap.size, 0, none⟩)]) (by simp) (by simp [go_sem]) ?_
  refine (catch_idle_set ⟨w.heap.size, 0, none⟩ _).mono ?_
  rintro e u' w'' ⟨rfl, rfl, rfl⟩
  refine ⟨.tuple #[v, .int .i64 0], ?_, v, rfl, HR.out _ _ _ hR1, (((Keeps.refl _).alloc _).trans hk).setCell _ (Nat.le_refl _)⟩
  have hc2 : (w1.setCell ⟨w.heap.size, 0, none⟩ (.int .i64 0)).cell? ⟨w.heap.size, 0, none⟩ = some (.int .i64 0) := World.cell?_setCell_same' _ _ _ (by rw [hc1.1 _ _ (by simp)]; simp)
  simp [results, Try.results49, go_sem, hc2]
set_option maxHeartbeats 400000 in
theorem answer_pan_set (K : Nat) (caps : Array Value) (w : World) (k : Int) (hcf : ∀ w, (callFunc K caps).run Try.prog w = .ok (.enter K caps) w)
    (h : Calls Try.prog K caps (w.alloc (.cells #[.int .i64 0] 30)) (Pan k (w.alloc (.cells #[.int .i64 0] 30)))) :
    Calls Try.prog 49 #[.func (.func K) #[] caps] w (Ret (.tuple #[.int .i64 0, .int .i64 k]) w) := by
  have hmf : ∀ (fn : Fn) (first cap : Array Value) (w : World), (Instr.makeFunc fn first cap).run Try.prog w = .ok (.func fn first cap) w := fun _ _ _ _ => rfl
  go_enter_defers Try.func49, Try.ntmps49
  go_wp2_with fail
  refine h.mono ?_
  rintro e w1 ⟨rfl, hk⟩
  have hc1 := hk.cells
  have hz1 : w.heap.size < w1.heap.size := by have := hk.size; simp at this; omega
  refine leaves_cons (f := 95) (args := #[.pointer (some ⟨w.heap.size, 0, none⟩)]) (by simp) (by simp [go_sem]) ?_
  refine (catch_pan_set ⟨w.heap.size, 0, none⟩ k [] _ ?_ ?_).mono ?_
  · rw [hc1.1 _ _ (by simp)]; simp [go_sem]
  · rw [hc1.2 _ _ (by simp)]; simp [go_sem]
  rintro e u' w'' ⟨rfl, rfl, rfl⟩
  refine ⟨.tuple #[.int .i64 0, .int .i64 k], ?_, rfl, (((Keeps.refl _).alloc _).trans hk).setCell _ (Nat.le_refl _)⟩
  have hc2 : (w1.setCell ⟨w.heap.size, 0, none⟩ (.int .i64 k)).cell? ⟨w.heap.size, 0, none⟩ = some (.int .i64 k) := World.cell?_setCell_same' _ _ _ (by rw [hc1.1 _ _ (by simp)]; simp [go_sem])
  simp [results, Try.results49, go_sem, hc2]
theorem catch_pan_ints (p : Addr) (k : Int) (older : List PanicEntry) (w : World) (hc : w.cell? p = some (.int .i64 0)) (hz : w.frozen? p = false) :
    CallsD Try.prog 106 #[.pointer (some p)] (.panicking ({ v := .iface 30 (.int .i64 k), recovered := false } :: older)) w fun e u' w' =>
      e = .returned (.tuple #[]) ∧ u' = .panicking ({ v := .iface 30 (.int .i64 k), recovered := true } :: older) ∧ w' = w.setCell p (.int .i64 k) := by
  refine callsD_of_wpS Try.func106 rfl fun c₀ cs hu => ?_
  apply wpS_seq
  apply wpS_region
  simp [wpOpsS, go_sem, recoverD, hu, Try.ntmps106, Exit.thenS]
  refine wpS_of_wp ?_
  go_wp2_with (go_at_call 89; refine (errorOf_any k _).mono ?_; rintro e w' ⟨rfl, rfl⟩)
  simp [bodyPostS, results, Try.results106]
theorem catch_idle_ints (p : Addr) (w : World) :
    CallsD Try.prog 106 #[.pointer (some p)] .returning w fun e u' w' => e = .returned (.tuple #[]) ∧ u' = .returning ∧ w = w' := by
  refine callsD_of_wpS Try.func106 rfl fun c₀ cs hu => ?_
  apply wpS_seq
  apply wpS_region
  simp [wpOpsS, go_sem, recoverD, hu, Try.ntmps106, Exit.thenS]
  refine wpS_of_wp ?_
  go_wp2_with fail
  cases c₀
  simp_all [bodyPostS, results, Try.results106]
set_option maxHeartbeats 400000 in
theorem answer_ok_ints (K : Nat) (caps : Array Value) (w : World) (R : Value → World → Prop) (hcf : ∀ w, (callFunc K caps).run Try.prog w = .ok (.enter K caps) w)
    (hR : ∀ v wa u, R v wa → R v (wa.setCell ⟨w.heap.size, 0, none⟩ u))
    (h : Calls Try.prog K caps (w.alloc (.cells #[.int .i64 0] 30)) (fun e w' => ∃ v, e = .returned v ∧ R v w' ∧ Keeps (w.alloc (.cells #[.int .i64 0] 30)) w')) :
    Calls Try.prog 74 #[.func (.func K) #[] caps] w (fun e w' => ∃ v, e = .returned (.tuple #[v, .int .i64 0]) ∧ R v w' ∧ Keeps w w') := by
  have hmf : ∀ (fn : Fn) (first cap : Array Value) (w : World), (Instr.makeFunc fn first cap).run Try.prog w = .ok (.func fn first cap) w := fun _ _ _ _ => rfl
  have HR := Lib.hid hR
  clear hR
  go_enter_defers Try.func74, Try.ntmps74
  go_wp2_with fail
  refine h.mono ?_
  rintro e w1 ⟨v, rfl, hR1, hk⟩
  have hc1 := hk.cells
  have hz1 : w.heap.size < w1.heap.size := by have := hk.size; simp at this; omega
  go_wp2_with fail
  refine leaves_cons (f := 106) (args := #[.pointer (some ⟨w.heap.size, 0, none⟩)]) (by simp) (by simp [go_sem]) ?_
  refine (catch_idle_ints ⟨w.heap.size, 0, none⟩ _).mono ?_
  rintro e u' w'' ⟨rfl, rfl, rfl⟩
  refine ⟨.tuple #[v, .int .i64 0], ?_, v, rfl, HR.out _ _ _ hR1, (((Keeps.refl _).alloc _).trans hk).setCell _ (Nat.le_refl _)⟩
  have hc2 : (w1.setCell ⟨w.heap.size, 0, none⟩ (.int .i64 0)).cell? ⟨w.heap.size, 0, none⟩ = some (.int .i64 0) := World.cell?_setCell_same' _ _ _ (by rw [hc1.1 _ _ (by simp)]; simp)
  simp [results, Try.results74, go_sem, hc2]
set_option maxHeartbeats 400000 in
theorem answer_pan_ints (K : Nat) (caps : Array Value) (w : World) (k : Int) (hcf : ∀ w, (callFunc K caps).run Try.prog w = .ok (.enter K caps) w)
    (h : Calls Try.prog K caps (w.alloc (.cells #[.int .i64 0] 30)) (Pan k (w.alloc (.cells #[.int .i64 0] 30)))) :
    Calls Try.prog 74 #[.func (.func K) #[] caps] w (Ret (.tuple #[.slice none 0 0, .int .i64 k]) w) := by
  have hmf : ∀ (fn : Fn) (first cap : Array Value) (w : World), (Instr.makeFunc fn first cap).run Try.prog w = .ok (.func fn first cap) w := fun _ _ _ _ => rfl
  go_enter_defers Try.func74, Try.ntmps74
  go_wp2_with fail
  refine h.mono ?_
  rintro e w1 ⟨rfl, hk⟩
  have hc1 := hk.cells
  have hz1 : w.heap.size < w1.heap.size := by have := hk.size; simp at this; omega
  refine leaves_cons (f := 106) (args := #[.pointer (some ⟨w.heap.size, 0, none⟩)]) (by simp) (by simp [go_sem]) ?_
  refine (catch_pan_ints ⟨w.heap.size, 0, none⟩ k [] _ ?_ ?_).mono ?_
  · rw [hc1.1 _ _ (by simp)]; simp [go_sem]
  · rw [hc1.2 _ _ (by simp)]; simp [go_sem]
  rintro e u' w'' ⟨rfl, rfl, rfl⟩
  refine ⟨.tuple #[.slice none 0 0, .int .i64 k], ?_, rfl, (((Keeps.refl _).alloc _).trans hk).setCell _ (Nat.le_refl _)⟩
  have hc2 : (w1.setCell ⟨w.heap.size, 0, none⟩ (.int .i64 k)).cell? ⟨w.heap.size, 0, none⟩ = some (.int .i64 k) := World.cell?_setCell_same' _ _ _ (by rw [hc1.1 _ _ (by simp)]; simp [go_sem])
  simp [results, Try.results74, go_sem, hc2]
theorem catch_pan_spans (p : Addr) (k : Int) (older : List PanicEntry) (w : World) (hc : w.cell? p = some (.int .i64 0)) (hz : w.frozen? p = false) :
    CallsD Try.prog 108 #[.pointer (some p)] (.panicking ({ v := .iface 30 (.int .i64 k), recovered := false } :: older)) w fun e u' w' =>
      e = .returned (.tuple #[]) ∧ u' = .panicking ({ v := .iface 30 (.int .i64 k), recovered := true } :: older) ∧ w' = w.setCell p (.int .i64 k) := by
  refine callsD_of_wpS Try.func108 rfl fun c₀ cs hu => ?_
  apply wpS_seq
  apply wpS_region
  simp [wpOpsS, go_sem, recoverD, hu, Try.ntmps108, Exit.thenS]
  refine wpS_of_wp ?_
  go_wp2_with (go_at_call 89; refine (errorOf_any k _).mono ?_; rintro e w' ⟨rfl, rfl⟩)
  simp [bodyPostS, results, Try.results108]
theorem catch_idle_spans (p : Addr) (w : World) :
    CallsD Try.prog 108 #[.pointer (some p)] .returning w fun e u' w' => e = .returned (.tuple #[]) ∧ u' = .returning ∧ w = w' := by
  refine callsD_of_wpS Try.func108 rfl fun c₀ cs hu => ?_
  apply wpS_seq
  apply wpS_region
  simp [wpOpsS, go_sem, recoverD, hu, Try.ntmps108, Exit.thenS]
  refine wpS_of_wp ?_
  go_wp2_with fail
  cases c₀
  simp_all [bodyPostS, results, Try.results108]
set_option maxHeartbeats 400000 in
theorem answer_ok_spans (K : Nat) (caps : Array Value) (w : World) (R : Value → World → Prop) (hcf : ∀ w, (callFunc K caps).run Try.prog w = .ok (.enter K caps) w)
    (hR : ∀ v wa u, R v wa → R v (wa.setCell ⟨w.heap.size, 0, none⟩ u))
    (h : Calls Try.prog K caps (w.alloc (.cells #[.int .i64 0] 30)) (fun e w' => ∃ v, e = .returned v ∧ R v w' ∧ Keeps (w.alloc (.cells #[.int .i64 0] 30)) w')) :
    Calls Try.prog 79 #[.func (.func K) #[] caps] w (fun e w' => ∃ v, e = .returned (.tuple #[v, .int .i64 0]) ∧ R v w' ∧ Keeps w w') := by
  have hmf : ∀ (fn : Fn) (first cap : Array Value) (w : World), (Instr.makeFunc fn first cap).run Try.prog w = .ok (.func fn first cap) w := fun _ _ _ _ => rfl
  have HR := Lib.hid hR
  clear hR
  go_enter_defers Try.func79, Try.ntmps79
  go_wp2_with fail
  refine h.mono ?_
  rintro e w1 ⟨v, rfl, hR1, hk⟩
  have hc1 := hk.cells
  have hz1 : w.heap.size < w1.heap.size := by have := hk.size; simp at this; omega
  go_wp2_with fail
  refine leaves_cons (f := 108) (args := #[.pointer (some ⟨w.heap.size, 0, none⟩)]) (by simp) (by simp [go_sem]) ?_
  refine (catch_idle_spans ⟨w.heap.size, 0, none⟩ _).mono ?_
  rintro e u' w'' ⟨rfl, rfl, rfl⟩
  refine ⟨.tuple #[v, .int .i64 0], ?_, v, rfl, HR.out _ _ _ hR1, (((Keeps.refl _).alloc _).trans hk).setCell _ (Nat.le_refl _)⟩
  have hc2 : (w1.setCell ⟨w.heap.size, 0, none⟩ (.int .i64 0)).cell? ⟨w.heap.size, 0, none⟩ = some (.int .i64 0) := World.cell?_setCell_same' _ _ _ (by rw [hc1.1 _ _ (by simp)]; simp)
  simp [results, Try.results79, go_sem, hc2]
set_option maxHeartbeats 400000 in
theorem answer_pan_spans (K : Nat) (caps : Array Value) (w : World) (k : Int) (hcf : ∀ w, (callFunc K caps).run Try.prog w = .ok (.enter K caps) w)
    (h : Calls Try.prog K caps (w.alloc (.cells #[.int .i64 0] 30)) (Pan k (w.alloc (.cells #[.int .i64 0] 30)))) :
    Calls Try.prog 79 #[.func (.func K) #[] caps] w (Ret (.tuple #[.slice none 0 0, .int .i64 k]) w) := by
  have hmf : ∀ (fn : Fn) (first cap : Array Value) (w : World), (Instr.makeFunc fn first cap).run Try.prog w = .ok (.func fn first cap) w := fun _ _ _ _ => rfl
  go_enter_defers Try.func79, Try.ntmps79
  go_wp2_with fail
  refine h.mono ?_
  rintro e w1 ⟨rfl, hk⟩
  have hc1 := hk.cells
  have hz1 : w.heap.size < w1.heap.size := by have := hk.size; simp at this; omega
  refine leaves_cons (f := 108) (args := #[.pointer (some ⟨w.heap.size, 0, none⟩)]) (by simp) (by simp [go_sem]) ?_
  refine (catch_pan_spans ⟨w.heap.size, 0, none⟩ k [] _ ?_ ?_).mono ?_
  · rw [hc1.1 _ _ (by simp)]; simp [go_sem]
  · rw [hc1.2 _ _ (by simp)]; simp [go_sem]
  rintro e u' w'' ⟨rfl, rfl, rfl⟩
  refine ⟨.tuple #[.slice none 0 0, .int .i64 k], ?_, rfl, (((Keeps.refl _).alloc _).trans hk).setCell _ (Nat.le_refl _)⟩
  have hc2 : (w1.setCell ⟨w.heap.size, 0, none⟩ (.int .i64 k)).cell? ⟨w.heap.size, 0, none⟩ = some (.int .i64 k) := World.cell?_setCell_same' _ _ _ (by rw [hc1.1 _ _ (by simp)]; simp [go_sem])
  simp [results, Try.results79, go_sem, hc2]
theorem catch_pan_fraction (p : Addr) (k : Int) (older : List PanicEntry) (w : World) (hc : w.cell? p = some (.int .i64 0)) (hz : w.frozen? p = false) :
    CallsD Try.prog 105 #[.pointer (some p)] (.panicking ({ v := .iface 30 (.int .i64 k), recovered := false } :: older)) w fun e u' w' =>
      e = .returned (.tuple #[]) ∧ u' = .panicking ({ v := .iface 30 (.int .i64 k), recovered := true } :: older) ∧ w' = w.setCell p (.int .i64 k) := by
  refine callsD_of_wpS Try.func105 rfl fun c₀ cs hu => ?_
  apply wpS_seq
  apply wpS_region
  simp [wpOpsS, go_sem, recoverD, hu, Try.ntmps105, Exit.thenS]
  refine wpS_of_wp ?_
  go_wp2_with (go_at_call 89; refine (errorOf_any k _).mono ?_; rintro e w' ⟨rfl, rfl⟩)
  simp [bodyPostS, results, Try.results105]
theorem catch_idle_fraction (p : Addr) (w : World) :
    CallsD Try.prog 105 #[.pointer (some p)] .returning w fun e u' w' => e = .returned (.tuple #[]) ∧ u' = .returning ∧ w = w' := by
  refine callsD_of_wpS Try.func105 rfl fun c₀ cs hu => ?_
  apply wpS_seq
  apply wpS_region
  simp [wpOpsS, go_sem, recoverD, hu, Try.ntmps105, Exit.thenS]
  refine wpS_of_wp ?_
  go_wp2_with fail
  cases c₀
  simp_all [bodyPostS, results, Try.results105]
set_option maxHeartbeats 400000 in
theorem answer_ok_fraction (K : Nat) (caps : Array Value) (w : World) (x y : Int) (hcf : ∀ w, (callFunc K caps).run Try.prog w = .ok (.enter K caps) w)
    (h : Calls Try.prog K caps ((w.alloc (.cells #[.int .i64 0, .int .i64 0] 110)).alloc (.cells #[.int .i64 0] 30)) (Ret (.agg #[.int .i64 x, .int .i64 y]) ((w.alloc (.cells #[.int .i64 0, .int .i64 0] 110)).alloc (.cells #[.int .i64 0] 30)))) :
    Calls Try.prog 69 #[.func (.func K) #[] caps] w (Ret (.tuple #[.agg #[.int .i64 x, .int .i64 y], .int .i64 0]) w) := by
  have hmf : ∀ (fn : Fn) (first cap : Array Value) (w : World), (Instr.makeFunc fn first cap).run Try.prog w = .ok (.func fn first cap) w := fun _ _ _ _ => rfl
  go_enter_defers Try.func69, Try.ntmps69
  go_wp2_with fail
  refine h.mono ?_
  rintro e w1 ⟨rfl, hk⟩
  have hc1 := hk.cells
  have hz1 : w.heap.size < w1.heap.size := by have := hk.size; simp at this; omega
  have hz2 : w.heap.size + 1 < w1.heap.size := by have := hk.size; simp at this; omega
  go_wp2_with fail
  refine leaves_cons (f := 105) (args := #[.pointer (some ⟨w.heap.size + 1, 0, none⟩)]) (by simp) (by simp [go_sem]) ?_
  refine (catch_idle_fraction ⟨w.heap.size + 1, 0, none⟩ _).mono ?_
  rintro e u' w'' ⟨rfl, rfl, rfl⟩
  refine ⟨.tuple #[.agg #[.int .i64 x, .int .i64 y], .int .i64 0], ?_, rfl, ((((((Keeps.refl _).alloc _).alloc _).trans hk).setCell _ (Nat.le_refl _)).setCell _ (Nat.le_refl _)).setCell _ (Nat.le_succ _)⟩
  have s0 : (w1.cell? ⟨w.heap.size, 0, none⟩).isSome = true := by rw [hc1.1 _ _ (by simp; omega)]; simp [go_sem]
  have s1 : (w1.cell? ⟨w.heap.size, 1, none⟩).isSome = true := by rw [hc1.1 _ _ (by simp; omega)]; simp [go_sem]
  have s2 : (w1.cell? ⟨w.heap.size + 1, 0, none⟩).isSome = true := by rw [hc1.1 _ _ (by simp)]; simp [go_sem]
  have q0 : (((w1.setCell ⟨w.heap.size, 0, none⟩ (.int .i64 x)).setCell ⟨w.heap.size, 1, none⟩ (.int .i64 y)).setCell ⟨w.heap.size + 1, 0, none⟩ (.int .i64 0)).cell? ⟨w.heap.size, 0, none⟩ = some (.int .i64 x) := by
    exact (cell_set_other (by omega)).trans ((cell_set_other (by omega)).trans (cell_set_same s0))
  have q1 : (((w1.setCell ⟨w.heap.size, 0, none⟩ (.int .i64 x)).setCell ⟨w.heap.size, 1, none⟩ (.int .i64 y)).setCell ⟨w.heap.size + 1, 0, none⟩ (.int .i64 0)).cell? ⟨w.heap.size, 1, none⟩ = some (.int .i64 y) := by
    exact (cell_set_other (by omega)).trans (cell_set_same (by rw [cell_set_other (by omega)]; exact s1))
  have q2 : (((w1.setCell ⟨w.heap.size, 0, none⟩ (.int .i64 x)).setCell ⟨w.heap.size, 1, none⟩ (.int .i64 y)).setCell ⟨w.heap.size + 1, 0, none⟩ (.int .i64 0)).cell? ⟨w.heap.size + 1, 0, none⟩ = some (.int .i64 0) := by
    exact cell_set_same (by rw [cell_set_other (by omega), cell_set_other (by omega)]; exact s2)
  simp [results, Try.results69, go_sem, q0, q1, q2]
set_option maxHeartbeats 400000 in
theorem answer_pan_fraction (K : Nat) (caps : Array Value) (w : World) (k : Int) (hcf : ∀ w, (callFunc K caps).run Try.prog w = .ok (.enter K caps) w)
    (h : Calls Try.prog K caps ((w.alloc (.cells #[.int .i64 0, .int .i64 0] 110)).alloc (.cells #[.int .i64 0] 30)) (Pan k ((w.alloc (.cells #[.int .i64 0, .int .i64 0] 110)).alloc (.cells #[.int .i64 0] 30)))) :
    Calls Try.prog 69 #[.func (.func K) #[] caps] w (Ret (.tuple #[.agg #[.int .i64 0, .int .i64 0], .int .i64 k]) w) := by
  have hmf : ∀ (fn : Fn) (first cap : Array Value) (w : World), (Instr.makeFunc fn first cap).run Try.prog w = .ok (.func fn first cap) w := fun _ _ _ _ => rfl
  go_enter_defers Try.func69, Try.ntmps69
  go_wp2_with fail
  refine h.mono ?_
  rintro e w1 ⟨rfl, hk⟩
  have hc1 := hk.cells
  have hz1 : w.heap.size < w1.heap.size := by have := hk.size; simp at this; omega
  refine leaves_cons (f := 105) (args := #[.pointer (some ⟨w.heap.size + 1, 0, none⟩)]) (by simp) (by simp [go_sem]) ?_
  refine (catch_pan_fraction ⟨w.heap.size + 1, 0, none⟩ k [] _ ?_ ?_).mono ?_
  · rw [hc1.1 _ _ (by simp)]; simp [go_sem]
  · rw [hc1.2 _ _ (by simp)]; simp [go_sem]
  rintro e u' w'' ⟨rfl, rfl, rfl⟩
  refine ⟨.tuple #[.agg #[.int .i64 0, .int .i64 0], .int .i64 k], ?_, rfl, ((((Keeps.refl _).alloc _).alloc _).trans hk).setCell _ (Nat.le_succ _)⟩
  have hc2 : (w1.setCell ⟨w.heap.size + 1, 0, none⟩ (.int .i64 k)).cell? ⟨w.heap.size + 1, 0, none⟩ = some (.int .i64 k) := World.cell?_setCell_same' _ _ _ (by rw [hc1.1 _ _ (by simp)]; simp [go_sem])
  have q0 : (w1.setCell ⟨w.heap.size + 1, 0, none⟩ (.int .i64 k)).cell? ⟨w.heap.size, 0, none⟩ = some (.int .i64 0) := by
    rw [cell_set_other (by omega), hc1.1 _ _ (by simp; omega)]; simp [go_sem]
  have q1 : (w1.setCell ⟨w.heap.size + 1, 0, none⟩ (.int .i64 k)).cell? ⟨w.heap.size, 1, none⟩ = some (.int .i64 0) := by
    rw [cell_set_other (by omega), hc1.1 _ _ (by simp; omega)]; simp [go_sem]
  simp [results, Try.results69, go_sem, hc2, q0, q1]
theorem catch_pan_choice (p : Addr) (k : Int) (older : List PanicEntry) (w : World) (hc : w.cell? p = some (.int .i64 0)) (hz : w.frozen? p = false) :
    CallsD Try.prog 88 #[.pointer (some p)] (.panicking ({ v := .iface 30 (.int .i64 k), recovered := false } :: older)) w fun e u' w' =>
      e = .returned (.tuple #[]) ∧ u' = .panicking ({ v := .iface 30 (.int .i64 k), recovered := true } :: older) ∧ w' = w.setCell p (.int .i64 k) := by
  refine callsD_of_wpS Try.func88 rfl fun c₀ cs hu => ?_
  apply wpS_seq
  apply wpS_region
  simp [wpOpsS, go_sem, recoverD, hu, Try.ntmps88, Exit.thenS]
  refine wpS_of_wp ?_
  go_wp2_with (go_at_call 89; refine (errorOf_any k _).mono ?_; rintro e w' ⟨rfl, rfl⟩)
  simp [bodyPostS, results, Try.results88]
theorem catch_idle_choice (p : Addr) (w : World) :
    CallsD Try.prog 88 #[.pointer (some p)] .returning w fun e u' w' => e = .returned (.tuple #[]) ∧ u' = .returning ∧ w = w' := by
  refine callsD_of_wpS Try.func88 rfl fun c₀ cs hu => ?_
  apply wpS_seq
  apply wpS_region
  simp [wpOpsS, go_sem, recoverD, hu, Try.ntmps88, Exit.thenS]
  refine wpS_of_wp ?_
  go_wp2_with fail
  cases c₀
  simp_all [bodyPostS, results, Try.results88]
set_option maxHeartbeats 400000 in
theorem answer_ok_choice (K : Nat) (caps : Array Value) (w : World) (x y : Int) (hcf : ∀ w, (callFunc K caps).run Try.prog w = .ok (.enter K caps) w)
    (h : Calls Try.prog K caps ((w.alloc (.cells #[.int .i64 0, .int .i64 0] 70)).alloc (.cells #[.int .i64 0] 30)) (Ret (.agg #[.int .i64 x, .int .i64 y]) ((w.alloc (.cells #[.int .i64 0, .int .i64 0] 70)).alloc (.cells #[.int .i64 0] 30)))) :
    Calls Try.prog 40 #[.func (.func K) #[] caps] w (Ret (.tuple #[.agg #[.int .i64 x, .int .i64 y], .int .i64 0]) w) := by
  have hmf : ∀ (fn : Fn) (first cap : Array Value) (w : World), (Instr.makeFunc fn first cap).run Try.prog w = .ok (.func fn first cap) w := fun _ _ _ _ => rfl
  go_enter_defers Try.func40, Try.ntmps40
  go_wp2_with fail
  refine h.mono ?_
  rintro e w1 ⟨rfl, hk⟩
  have hc1 := hk.cells
  have hz1 : w.heap.size < w1.heap.size := by have := hk.size; simp at this; omega
  have hz2 : w.heap.size + 1 < w1.heap.size := by have := hk.size; simp at this; omega
  go_wp2_with fail
  refine leaves_cons (f := 88) (args := #[.pointer (some ⟨w.heap.size + 1, 0, none⟩)]) (by simp) (by simp [go_sem]) ?_
  refine (catch_idle_choice ⟨w.heap.size + 1, 0, none⟩ _).mono ?_
  rintro e u' w'' ⟨rfl, rfl, rfl⟩
  refine ⟨.tuple #[.agg #[.int .i64 x, .int .i64 y], .int .i64 0], ?_, rfl, ((((((Keeps.refl _).alloc _).alloc _).trans hk).setCell _ (Nat.le_refl _)).setCell _ (Nat.le_refl _)).setCell _ (Nat.le_succ _)⟩
  have s0 : (w1.cell? ⟨w.heap.size, 0, none⟩).isSome = true := by rw [hc1.1 _ _ (by simp; omega)]; simp [go_sem]
  have s1 : (w1.cell? ⟨w.heap.size, 1, none⟩).isSome = true := by rw [hc1.1 _ _ (by simp; omega)]; simp [go_sem]
  have s2 : (w1.cell? ⟨w.heap.size + 1, 0, none⟩).isSome = true := by rw [hc1.1 _ _ (by simp)]; simp [go_sem]
  have q0 : (((w1.setCell ⟨w.heap.size, 0, none⟩ (.int .i64 x)).setCell ⟨w.heap.size, 1, none⟩ (.int .i64 y)).setCell ⟨w.heap.size + 1, 0, none⟩ (.int .i64 0)).cell? ⟨w.heap.size, 0, none⟩ = some (.int .i64 x) := by
    exact (cell_set_other (by omega)).trans ((cell_set_other (by omega)).trans (cell_set_same s0))
  have q1 : (((w1.setCell ⟨w.heap.size, 0, none⟩ (.int .i64 x)).setCell ⟨w.heap.size, 1, none⟩ (.int .i64 y)).setCell ⟨w.heap.size + 1, 0, none⟩ (.int .i64 0)).cell? ⟨w.heap.size, 1, none⟩ = some (.int .i64 y) := by
    exact (cell_set_other (by omega)).trans (cell_set_same (by rw [cell_set_other (by omega)]; exact s1))
  have q2 : (((w1.setCell ⟨w.heap.size, 0, none⟩ (.int .i64 x)).setCell ⟨w.heap.size, 1, none⟩ (.int .i64 y)).setCell ⟨w.heap.size + 1, 0, none⟩ (.int .i64 0)).cell? ⟨w.heap.size + 1, 0, none⟩ = some (.int .i64 0) := by
    exact cell_set_same (by rw [cell_set_other (by omega), cell_set_other (by omega)]; exact s2)
  simp [results, Try.results40, go_sem, q0, q1, q2]
set_option maxHeartbeats 400000 in
theorem answer_pan_choice (K : Nat) (caps : Array Value) (w : World) (k : Int) (hcf : ∀ w, (callFunc K caps).run Try.prog w = .ok (.enter K caps) w)
    (h : Calls Try.prog K caps ((w.alloc (.cells #[.int .i64 0, .int .i64 0] 70)).alloc (.cells #[.int .i64 0] 30)) (Pan k ((w.alloc (.cells #[.int .i64 0, .int .i64 0] 70)).alloc (.cells #[.int .i64 0] 30)))) :
    Calls Try.prog 40 #[.func (.func K) #[] caps] w (Ret (.tuple #[.agg #[.int .i64 0, .int .i64 0], .int .i64 k]) w) := by
  have hmf : ∀ (fn : Fn) (first cap : Array Value) (w : World), (Instr.makeFunc fn first cap).run Try.prog w = .ok (.func fn first cap) w := fun _ _ _ _ => rfl
  go_enter_defers Try.func40, Try.ntmps40
  go_wp2_with fail
  refine h.mono ?_
  rintro e w1 ⟨rfl, hk⟩
  have hc1 := hk.cells
  have hz1 : w.heap.size < w1.heap.size := by have := hk.size; simp at this; omega
  refine leaves_cons (f := 88) (args := #[.pointer (some ⟨w.heap.size + 1, 0, none⟩)]) (by simp) (by simp [go_sem]) ?_
  refine (catch_pan_choice ⟨w.heap.size + 1, 0, none⟩ k [] _ ?_ ?_).mono ?_
  · rw [hc1.1 _ _ (by simp)]; simp [go_sem]
  · rw [hc1.2 _ _ (by simp)]; simp [go_sem]
  rintro e u' w'' ⟨rfl, rfl, rfl⟩
  refine ⟨.tuple #[.agg #[.int .i64 0, .int .i64 0], .int .i64 k], ?_, rfl, ((((Keeps.refl _).alloc _).alloc _).trans hk).setCell _ (Nat.le_succ _)⟩
  have hc2 : (w1.setCell ⟨w.heap.size + 1, 0, none⟩ (.int .i64 k)).cell? ⟨w.heap.size + 1, 0, none⟩ = some (.int .i64 k) := World.cell?_setCell_same' _ _ _ (by rw [hc1.1 _ _ (by simp)]; simp [go_sem])
  have q0 : (w1.setCell ⟨w.heap.size + 1, 0, none⟩ (.int .i64 k)).cell? ⟨w.heap.size, 0, none⟩ = some (.int .i64 0) := by
    rw [cell_set_other (by omega), hc1.1 _ _ (by simp; omega)]; simp [go_sem]
  have q1 : (w1.setCell ⟨w.heap.size + 1, 0, none⟩ (.int .i64 k)).cell? ⟨w.heap.size, 1, none⟩ = some (.int .i64 0) := by
    rw [cell_set_other (by omega), hc1.1 _ _ (by simp; omega)]; simp [go_sem]
  simp [results, Try.results40, go_sem, hc2, q0, q1]
end Go.Proofs.Ytoidnbpbeblokaa
