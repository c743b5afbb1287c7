/-
  WARM: what the exported functions return.
-/
import Derived.Test.YtmhpgjlegajpeaaE1
namespace Go.Proofs.Ytmhpgjlegajpeaa
open Go.RowKit

theorem say_zero {α : Type} {B : Wm} {bad : Int} {z v : α} (h : (B.say bad z v).2 ≠ 0) : (B.say bad z v).1 = z := by
  unfold Wm.say at h ⊢
  split
  · rfl
  · rename_i h1
    rw [if_neg h1] at h
    split
    · rfl
    · rename_i h2
      rw [if_neg h2] at h
      split
      · rfl
      · rename_i h3
        rw [if_neg h3] at h
        exact absurd rfl h
theorem answer_span (K : Nat) (caps : Array Value) (w : World) (r : (Int × Int) × Int) (hcf : ∀ w, (callFunc K caps).run Try.prog w = .ok (.enter K caps) w) (hz : r.2 ≠ 0 → r.1 = (0, 0))
    (h : ∀ w1, Keeps w w1 → Calls Try.prog K caps w1 (Out (spV r.1) r.2 w1)) : Calls Try.prog 46 #[.func (.func K) #[] caps] w (Ret (.tuple #[spV r.1, .int .i64 r.2]) w) := by
  obtain ⟨⟨x, y⟩, e⟩ := r
  have h1 := h _ (((Keeps.refl w).alloc (.cells #[.int .i64 0, .int .i64 0] 23)).alloc (.cells #[.int .i64 0] 29))
  unfold Out at h1
  by_cases he : e = 0
  · subst he
    rw [if_pos rfl] at h1
    exact answer_ok_span K caps w x y hcf h1
  · rw [if_neg he] at h1
    have hxy : (x, y) = (0, 0) := hz he
    cases hxy
    exact answer_pan_span K caps w e hcf h1
theorem answer_won (K : Nat) (caps : Array Value) (w : World) (r : (Int × Int) × Int) (hcf : ∀ w, (callFunc K caps).run Try.prog w = .ok (.enter K caps) w) (hz : r.2 ≠ 0 → r.1 = (0, 0))
    (h : ∀ w1, Keeps w w1 → Calls Try.prog K caps w1 (Out (spV r.1) r.2 w1)) : Calls Try.prog 78 #[.func (.func K) #[] caps] w (Ret (.tuple #[spV r.1, .int .i64 r.2]) w) := by
  obtain ⟨⟨x, y⟩, e⟩ := r
  have h1 := h _ (((Keeps.refl w).alloc (.cells #[.int .i64 0, .int .i64 0] 112)).alloc (.cells #[.int .i64 0] 29))
  unfold Out at h1
  by_cases he : e = 0
  · subst he
    rw [if_pos rfl] at h1
    exact answer_ok_won K caps w x y hcf h1
  · rw [if_neg he] at h1
    have hxy : (x, y) = (0, 0) := hz he
    cases hxy
    exact answer_pan_won K caps w e hcf h1
theorem answer_int (K : Nat) (caps : Array Value) (w : World) (r : Int × Int) (hcf : ∀ w, (callFunc K caps).run Try.prog w = .ok (.enter K caps) w) (hz : r.2 ≠ 0 → r.1 = 0)
    (h : ∀ w1, Keeps w w1 → Calls Try.prog K caps w1 (Out (.int .i64 r.1) r.2 w1)) : Calls Try.prog 69 #[.func (.func K) #[] caps] w (Ret (.tuple #[.int .i64 r.1, .int .i64 r.2]) w) := by
  obtain ⟨x, e⟩ := r
  have h1 := h _ ((Keeps.refl w).alloc (.cells #[.int .i64 0] 29))
  unfold Out at h1
  by_cases he : e = 0
  · subst he
    rw [if_pos rfl] at h1
    refine Calls.mono (answer_ok_int K caps w (fun v _ => v = .int .i64 x) hcf (fun _ _ _ h => h) (Calls.mono h1 ?_)) ?_
    · rintro en w' ⟨rfl, k⟩; exact ⟨_, rfl, rfl, k⟩
    · rintro en w' ⟨v, rfl, rfl, k⟩; exact ⟨rfl, k⟩
  · rw [if_neg he] at h1
    have hx := hz he
    dsimp only at hx
    subst hx
    exact answer_pan_int K caps w e hcf h1
theorem zcount (B : Wm) (h : B.countA.2 ≠ 0) : B.countA.1 = 0 := by
  unfold Wm.countA at h ⊢
  split
  · rename_i h1; rw [if_pos h1] at h; exact absurd rfl h
  · rfl
theorem zclash (B : Wm) (h : B.clashA.2 ≠ 0) : B.clashA.1 = 0 := by
  unfold Wm.clashA at h ⊢
  split
  · rename_i h1
    rw [if_pos h1] at h
    split
    · rename_i h2; rw [h2] at h; exact absurd rfl h
    · rfl
  · rfl
theorem enter_Length1 (caps : Array Value) (w : World) : (callFunc 47 caps).run Try.prog w = .ok (.enter 47 caps) w := enters_of Try.func47 (by kernel_rfl) rfl caps w
set_option maxHeartbeats 1600000 in
theorem Length_any (B : Wm) (w : World) (hI : B.In w) : Calls Try.prog 15 #[B.v] w (Ret (.tuple #[spV (B.lenA).1, .int .i64 (B.lenA).2]) w) := by
  have hmf : ∀ (fn : Fn) (first cap : Array Value) (w : World), (Instr.makeFunc fn first cap).run Try.prog w = .ok (.func fn first cap) w := fun _ _ _ _ => rfl
  have k0x := ((Keeps.refl w).alloc (.cells #[.int .i64 B.mark, .int .i64 B.llo, .int .i64 B.lhi, .int .i64 B.clo, .int .i64 B.chi, .slice B.ra B.rs.length B.rc] 26))
  have hBx : B.Box (w.alloc (.cells #[.int .i64 B.mark, .int .i64 B.llo, .int .i64 B.lhi, .int .i64 B.clo, .int .i64 B.chi, .slice B.ra B.rs.length B.rc] 26)) w.heap.size := Wm.Box.new B w
  skip
  have AN := Lib.hid (fun w1 (kx : Keeps (w.alloc (.cells #[.int .i64 B.mark, .int .i64 B.llo, .int .i64 B.lhi, .int .i64 B.clo, .int .i64 B.chi, .slice B.ra B.rs.length B.rc] 26)) w1) => answer_span 47 #[.pointer (some ⟨w.heap.size, 0, none⟩)] w1 (B.lenA) (enter_Length1 _) (say_zero) (fun w2 k => Length1_out B  _ w2 (hBx.keep (kx.trans k)) (hI.keep ((k0x.trans kx).trans k)) ))
  obtain ⟨r, hr⟩ : ∃ r, B.lenA = r := ⟨_, rfl⟩
  rw [hr] at AN ⊢
  obtain ⟨⟨x, y⟩, e⟩ := r
  dsimp only [spV] at AN ⊢
  obtain ⟨mark, llo, lhi, clo, chi, ra, rc, rs⟩ := B
  dsimp only [Wm.v] at *
  clear hI hBx hr
  go_enter Try.func15, Try.ntmps15
  go_wp2_with fail
  refine (AN.out _ ((Keeps.refl _).alloc _)).mono ?_
  rintro en w1 ⟨rfl, k1⟩
  have kw := (k0x.alloc (.cells #[.int .i64 0, .int .i64 0] 23)).trans k1
  have s0 : w1.cell? ⟨w.heap.size + 1, 0, none⟩ = some (.int .i64 0) := k1.cell (by simp [go_sem])
  have s1 : w1.cell? ⟨w.heap.size + 1, 1, none⟩ = some (.int .i64 0) := k1.cell (by simp [go_sem])
  have f0 : w1.frozen? ⟨w.heap.size + 1, 0, none⟩ = false := by rw [k1.cells.2 _ _ (by simp)]; simp [go_sem]
  have f1 : w1.frozen? ⟨w.heap.size + 1, 1, none⟩ = false := by rw [k1.cells.2 _ _ (by simp)]; simp [go_sem]
  have hls := lt_of_cell s0
  have h2 := (TwoI.set0 ⟨s0, s1, f0, f1⟩ x).set1 y
  go_wp2_with fail
  refine bodyPost_ret (v := .tuple #[.agg #[.int .i64 x, .int .i64 y], .int .i64 e]) ?_ rfl ⟨rfl, (kw.setCell (p := ⟨w.heap.size + 1, 0, none⟩) _ (by dsimp only; omega)).setCell (p := ⟨w.heap.size + 1, 1, none⟩) _ (by dsimp only; omega)⟩
  simp [results, Try.results15, go_sem, h2.c0, h2.c1]
theorem enter_Coeff1 (caps : Array Value) (w : World) : (callFunc 56 caps).run Try.prog w = .ok (.enter 56 caps) w := enters_of Try.func56 (by kernel_rfl) rfl caps w
set_option maxHeartbeats 1600000 in
theorem Coeff_any (B : Wm) (w : World) (hI : B.In w) : Calls Try.prog 17 #[B.v] w (Ret (.tuple #[spV (B.coeffA).1, .int .i64 (B.coeffA).2]) w) := by
  have hmf : ∀ (fn : Fn) (first cap : Array Value) (w : World), (Instr.makeFunc fn first cap).run Try.prog w = .ok (.func fn first cap) w := fun _ _ _ _ => rfl
  have k0x := ((Keeps.refl w).alloc (.cells #[.int .i64 B.mark, .int .i64 B.llo, .int .i64 B.lhi, .int .i64 B.clo, .int .i64 B.chi, .slice B.ra B.rs.length B.rc] 26))
  have hBx : B.Box (w.alloc (.cells #[.int .i64 B.mark, .int .i64 B.llo, .int .i64 B.lhi, .int .i64 B.clo, .int .i64 B.chi, .slice B.ra B.rs.length B.rc] 26)) w.heap.size := Wm.Box.new B w
  skip
  have AN := Lib.hid (fun w1 (kx : Keeps (w.alloc (.cells #[.int .i64 B.mark, .int .i64 B.llo, .int .i64 B.lhi, .int .i64 B.clo, .int .i64 B.chi, .slice B.ra B.rs.length B.rc] 26)) w1) => answer_span 56 #[.pointer (some ⟨w.heap.size, 0, none⟩)] w1 (B.coeffA) (enter_Coeff1 _) (say_zero) (fun w2 k => Coeff1_out B  _ w2 (hBx.keep (kx.trans k)) (hI.keep ((k0x.trans kx).trans k)) ))
  obtain ⟨r, hr⟩ : ∃ r, B.coeffA = r := ⟨_, rfl⟩
  rw [hr] at AN ⊢
  obtain ⟨⟨x, y⟩, e⟩ := r
  dsimp only [spV] at AN ⊢
  obtain ⟨mark, llo, lhi, clo, chi, ra, rc, rs⟩ := B
  dsimp only [Wm.v] at *
  clear hI hBx hr
  go_enter Try.func17, Try.ntmps17
  go_wp2_with fail
  refine (AN.out _ ((Keeps.refl _).alloc _)).mono ?_
  rintro en w1 ⟨rfl, k1⟩
  have kw := (k0x.alloc (.cells #[.int .i64 0, .int .i64 0] 23)).trans k1
  have s0 : w1.cell? ⟨w.heap.size + 1, 0, none⟩ = some (.int .i64 0) := k1.cell (by simp [go_sem])
  have s1 : w1.cell? ⟨w.heap.size + 1, 1, none⟩ = some (.int .i64 0) := k1.cell (by simp [go_sem])
  have f0 : w1.frozen? ⟨w.heap.size + 1, 0, none⟩ = false := by rw [k1.cells.2 _ _ (by simp)]; simp [go_sem]
  have f1 : w1.frozen? ⟨w.heap.size + 1, 1, none⟩ = false := by rw [k1.cells.2 _ _ (by simp)]; simp [go_sem]
  have hls := lt_of_cell s0
  have h2 := (TwoI.set0 ⟨s0, s1, f0, f1⟩ x).set1 y
  go_wp2_with fail
  refine bodyPost_ret (v := .tuple #[.agg #[.int .i64 x, .int .i64 y], .int .i64 e]) ?_ rfl ⟨rfl, (kw.setCell (p := ⟨w.heap.size + 1, 0, none⟩) _ (by dsimp only; omega)).setCell (p := ⟨w.heap.size + 1, 1, none⟩) _ (by dsimp only; omega)⟩
  simp [results, Try.results17, go_sem, h2.c0, h2.c1]
theorem enter_Held1 (caps : Array Value) (w : World) : (callFunc 58 caps).run Try.prog w = .ok (.enter 58 caps) w := enters_of Try.func58 (by kernel_rfl) rfl caps w
set_option maxHeartbeats 1600000 in
theorem Held_any (B : Wm) (n : Int) (w : World) (hI : B.In w) : Calls Try.prog 19 #[B.v, .int .i64 n] w (Ret (.tuple #[spV (B.heldA n).1, .int .i64 (B.heldA n).2]) w) := by
  have hmf : ∀ (fn : Fn) (first cap : Array Value) (w : World), (Instr.makeFunc fn first cap).run Try.prog w = .ok (.func fn first cap) w := fun _ _ _ _ => rfl
  have k0x := ((Keeps.refl w).alloc (.cells #[.int .i64 B.mark, .int .i64 B.llo, .int .i64 B.lhi, .int .i64 B.clo, .int .i64 B.chi, .slice B.ra B.rs.length B.rc] 26)).alloc (.cells #[.int .i64 n] 3)
  have hBx : B.Box ((w.alloc (.cells #[.int .i64 B.mark, .int .i64 B.llo, .int .i64 B.lhi, .int .i64 B.clo, .int .i64 B.chi, .slice B.ra B.rs.length B.rc] 26)).alloc (.cells #[.int .i64 n] 3)) w.heap.size := (Wm.Box.new B w).keep ((Keeps.refl _).alloc _)
  have hc : ((w.alloc (.cells #[.int .i64 B.mark, .int .i64 B.llo, .int .i64 B.lhi, .int .i64 B.clo, .int .i64 B.chi, .slice B.ra B.rs.length B.rc] 26)).alloc (.cells #[.int .i64 n] 3)).cell? ⟨w.heap.size + 1, 0, none⟩ = some (.int .i64 n) := by simp [go_sem]
  have AN := Lib.hid (fun w1 (kx : Keeps ((w.alloc (.cells #[.int .i64 B.mark, .int .i64 B.llo, .int .i64 B.lhi, .int .i64 B.clo, .int .i64 B.chi, .slice B.ra B.rs.length B.rc] 26)).alloc (.cells #[.int .i64 n] 3)) w1) => answer_span 58 #[.pointer (some ⟨w.heap.size, 0, none⟩), .pointer (some ⟨w.heap.size + 1, 0, none⟩)] w1 (B.heldA n) (enter_Held1 _) (say_zero) (fun w2 k => Held1_out B n _ _ w2 (hBx.keep (kx.trans k)) (hI.keep ((k0x.trans kx).trans k)) ((kx.trans k).cell hc)))
  obtain ⟨r, hr⟩ : ∃ r, B.heldA n = r := ⟨_, rfl⟩
  rw [hr] at AN ⊢
  obtain ⟨⟨x, y⟩, e⟩ := r
  dsimp only [spV] at AN ⊢
  obtain ⟨mark, llo, lhi, clo, chi, ra, rc, rs⟩ := B
  dsimp only [Wm.v] at *
  clear hI hBx hr hc
  go_enter Try.func19, Try.ntmps19
  go_wp2_with fail
  refine (AN.out _ ((Keeps.refl _).alloc _)).mono ?_
  rintro en w1 ⟨rfl, k1⟩
  have kw := (k0x.alloc (.cells #[.int .i64 0, .int .i64 0] 23)).trans k1
  have s0 : w1.cell? ⟨w.heap.size + 1 + 1, 0, none⟩ = some (.int .i64 0) := k1.cell (by simp [go_sem])
  have s1 : w1.cell? ⟨w.heap.size + 1 + 1, 1, none⟩ = some (.int .i64 0) := k1.cell (by simp [go_sem])
  have f0 : w1.frozen? ⟨w.heap.size + 1 + 1, 0, none⟩ = false := by rw [k1.cells.2 _ _ (by simp)]; simp [go_sem]
  have f1 : w1.frozen? ⟨w.heap.size + 1 + 1, 1, none⟩ = false := by rw [k1.cells.2 _ _ (by simp)]; simp [go_sem]
  have hls := lt_of_cell s0
  have h2 := (TwoI.set0 ⟨s0, s1, f0, f1⟩ x).set1 y
  go_wp2_with fail
  refine bodyPost_ret (v := .tuple #[.agg #[.int .i64 x, .int .i64 y], .int .i64 e]) ?_ rfl ⟨rfl, (kw.setCell (p := ⟨w.heap.size + 1 + 1, 0, none⟩) _ (by dsimp only; omega)).setCell (p := ⟨w.heap.size + 1 + 1, 1, none⟩) _ (by dsimp only; omega)⟩
  simp [results, Try.results19, go_sem, h2.c0, h2.c1]
theorem enter_Shows1 (caps : Array Value) (w : World) : (callFunc 64 caps).run Try.prog w = .ok (.enter 64 caps) w := enters_of Try.func64 (by kernel_rfl) rfl caps w
set_option maxHeartbeats 1600000 in
theorem Shows_any (B : Wm) (lo hi : Int) (w : World) (hI : B.In w) : Calls Try.prog 21 #[B.v, .agg #[.int .i64 lo, .int .i64 hi]] w (Ret (.tuple #[spV (B.showsA lo hi).1, .int .i64 (B.showsA lo hi).2]) w) := by
  have hmf : ∀ (fn : Fn) (first cap : Array Value) (w : World), (Instr.makeFunc fn first cap).run Try.prog w = .ok (.func fn first cap) w := fun _ _ _ _ => rfl
  have k0x := ((Keeps.refl w).alloc (.cells #[.int .i64 B.mark, .int .i64 B.llo, .int .i64 B.lhi, .int .i64 B.clo, .int .i64 B.chi, .slice B.ra B.rs.length B.rc] 26)).alloc (.cells #[.int .i64 lo, .int .i64 hi] 23)
  have hBx : B.Box ((w.alloc (.cells #[.int .i64 B.mark, .int .i64 B.llo, .int .i64 B.lhi, .int .i64 B.clo, .int .i64 B.chi, .slice B.ra B.rs.length B.rc] 26)).alloc (.cells #[.int .i64 lo, .int .i64 hi] 23)) w.heap.size := (Wm.Box.new B w).keep ((Keeps.refl _).alloc _)
  have hc : ((w.alloc (.cells #[.int .i64 B.mark, .int .i64 B.llo, .int .i64 B.lhi, .int .i64 B.clo, .int .i64 B.chi, .slice B.ra B.rs.length B.rc] 26)).alloc (.cells #[.int .i64 lo, .int .i64 hi] 23)).cell? ⟨w.heap.size + 1, 0, none⟩ = some (.int .i64 lo) := by simp [go_sem]
  have hd : ((w.alloc (.cells #[.int .i64 B.mark, .int .i64 B.llo, .int .i64 B.lhi, .int .i64 B.clo, .int .i64 B.chi, .slice B.ra B.rs.length B.rc] 26)).alloc (.cells #[.int .i64 lo, .int .i64 hi] 23)).cell? ⟨w.heap.size + 1, 1, none⟩ = some (.int .i64 hi) := by simp [go_sem]
  have AN := Lib.hid (fun w1 (kx : Keeps ((w.alloc (.cells #[.int .i64 B.mark, .int .i64 B.llo, .int .i64 B.lhi, .int .i64 B.clo, .int .i64 B.chi, .slice B.ra B.rs.length B.rc] 26)).alloc (.cells #[.int .i64 lo, .int .i64 hi] 23)) w1) => answer_span 64 #[.pointer (some ⟨w.heap.size, 0, none⟩), .pointer (some ⟨w.heap.size + 1, 0, none⟩)] w1 (B.showsA lo hi) (enter_Shows1 _) (say_zero) (fun w2 k => Shows1_out B lo hi _ _ w2 (hBx.keep (kx.trans k)) (hI.keep ((k0x.trans kx).trans k)) ((kx.trans k).cell hc) ((kx.trans k).cell hd)))
  obtain ⟨r, hr⟩ : ∃ r, B.showsA lo hi = r := ⟨_, rfl⟩
  rw [hr] at AN ⊢
  obtain ⟨⟨x, y⟩, e⟩ := r
  dsimp only [spV] at AN ⊢
  obtain ⟨mark, llo, lhi, clo, chi, ra, rc, rs⟩ := B
  dsimp only [Wm.v] at *
  clear hI hBx hr hc hd
  go_enter Try.func21, Try.ntmps21
  go_wp2_with fail
  refine (AN.out _ ((Keeps.refl _).alloc _)).mono ?_
  rintro en w1 ⟨rfl, k1⟩
  have kw := (k0x.alloc (.cells #[.int .i64 0, .int .i64 0] 23)).trans k1
  have s0 : w1.cell? ⟨w.heap.size + 1 + 1, 0, none⟩ = some (.int .i64 0) := k1.cell (by simp [go_sem])
  have s1 : w1.cell? ⟨w.heap.size + 1 + 1, 1, none⟩ = some (.int .i64 0) := k1.cell (by simp [go_sem])
  have f0 : w1.frozen? ⟨w.heap.size + 1 + 1, 0, none⟩ = false := by rw [k1.cells.2 _ _ (by simp)]; simp [go_sem]
  have f1 : w1.frozen? ⟨w.heap.size + 1 + 1, 1, none⟩ = false := by rw [k1.cells.2 _ _ (by simp)]; simp [go_sem]
  have hls := lt_of_cell s0
  have h2 := (TwoI.set0 ⟨s0, s1, f0, f1⟩ x).set1 y
  go_wp2_with fail
  refine bodyPost_ret (v := .tuple #[.agg #[.int .i64 x, .int .i64 y], .int .i64 e]) ?_ rfl ⟨rfl, (kw.setCell (p := ⟨w.heap.size + 1 + 1, 0, none⟩) _ (by dsimp only; omega)).setCell (p := ⟨w.heap.size + 1 + 1, 1, none⟩) _ (by dsimp only; omega)⟩
  simp [results, Try.results21, go_sem, h2.c0, h2.c1]
theorem enter_Room1 (caps : Array Value) (w : World) : (callFunc 70 caps).run Try.prog w = .ok (.enter 70 caps) w := enters_of Try.func70 (by kernel_rfl) rfl caps w
set_option maxHeartbeats 1600000 in
theorem Room_any (B : Wm) (off : Int) (w : World) (hI : B.In w) : Calls Try.prog 23 #[B.v, .int .i64 off] w (Ret (.tuple #[.int .i64 (B.roomA off).1, .int .i64 (B.roomA off).2]) w) := by
  have hmf : ∀ (fn : Fn) (first cap : Array Value) (w : World), (Instr.makeFunc fn first cap).run Try.prog w = .ok (.func fn first cap) w := fun _ _ _ _ => rfl
  have k0x := ((Keeps.refl w).alloc (.cells #[.int .i64 B.mark, .int .i64 B.llo, .int .i64 B.lhi, .int .i64 B.clo, .int .i64 B.chi, .slice B.ra B.rs.length B.rc] 26)).alloc (.cells #[.int .i64 off] 3)
  have hBx : B.Box ((w.alloc (.cells #[.int .i64 B.mark, .int .i64 B.llo, .int .i64 B.lhi, .int .i64 B.clo, .int .i64 B.chi, .slice B.ra B.rs.length B.rc] 26)).alloc (.cells #[.int .i64 off] 3)) w.heap.size := (Wm.Box.new B w).keep ((Keeps.refl _).alloc _)
  have hc : ((w.alloc (.cells #[.int .i64 B.mark, .int .i64 B.llo, .int .i64 B.lhi, .int .i64 B.clo, .int .i64 B.chi, .slice B.ra B.rs.length B.rc] 26)).alloc (.cells #[.int .i64 off] 3)).cell? ⟨w.heap.size + 1, 0, none⟩ = some (.int .i64 off) := by simp [go_sem]
  have AN := Lib.hid (fun w1 (kx : Keeps ((w.alloc (.cells #[.int .i64 B.mark, .int .i64 B.llo, .int .i64 B.lhi, .int .i64 B.clo, .int .i64 B.chi, .slice B.ra B.rs.length B.rc] 26)).alloc (.cells #[.int .i64 off] 3)) w1) => answer_int 70 #[.pointer (some ⟨w.heap.size, 0, none⟩), .pointer (some ⟨w.heap.size + 1, 0, none⟩)] w1 (B.roomA off) (enter_Room1 _) (say_zero) (fun w2 k => Room1_out B off _ _ w2 (hBx.keep (kx.trans k)) (hI.keep ((k0x.trans kx).trans k)) ((kx.trans k).cell hc)))
  obtain ⟨r, hr⟩ : ∃ r, B.roomA off = r := ⟨_, rfl⟩
  rw [hr] at AN ⊢
  obtain ⟨x, e⟩ := r
  dsimp only at AN ⊢
  obtain ⟨mark, llo, lhi, clo, chi, ra, rc, rs⟩ := B
  dsimp only [Wm.v] at *
  clear hI hBx hr hc
  go_enter Try.func23, Try.ntmps23
  go_wp2_with fail
  refine (AN.out _ (Keeps.refl _)).mono ?_
  rintro en w1 ⟨rfl, k1⟩
  go_wp2_with fail
  go_ret2
  exact ⟨rfl, k0x.trans k1⟩
theorem enter_Count1 (caps : Array Value) (w : World) : (callFunc 75 caps).run Try.prog w = .ok (.enter 75 caps) w := enters_of Try.func75 (by kernel_rfl) rfl caps w
set_option maxHeartbeats 1600000 in
theorem Count_any (B : Wm) (w : World) (hI : B.In w) : Calls Try.prog 25 #[B.v] w (Ret (.tuple #[.int .i64 (B.countA).1, .int .i64 (B.countA).2]) w) := by
  have hmf : ∀ (fn : Fn) (first cap : Array Value) (w : World), (Instr.makeFunc fn first cap).run Try.prog w = .ok (.func fn first cap) w := fun _ _ _ _ => rfl
  have k0x := ((Keeps.refl w).alloc (.cells #[.int .i64 B.mark, .int .i64 B.llo, .int .i64 B.lhi, .int .i64 B.clo, .int .i64 B.chi, .slice B.ra B.rs.length B.rc] 26))
  have hBx : B.Box (w.alloc (.cells #[.int .i64 B.mark, .int .i64 B.llo, .int .i64 B.lhi, .int .i64 B.clo, .int .i64 B.chi, .slice B.ra B.rs.length B.rc] 26)) w.heap.size := Wm.Box.new B w
  skip
  have AN := Lib.hid (fun w1 (kx : Keeps (w.alloc (.cells #[.int .i64 B.mark, .int .i64 B.llo, .int .i64 B.lhi, .int .i64 B.clo, .int .i64 B.chi, .slice B.ra B.rs.length B.rc] 26)) w1) => answer_int 75 #[.pointer (some ⟨w.heap.size, 0, none⟩)] w1 (B.countA) (enter_Count1 _) (zcount B) (fun w2 k => Count1_out B  _ w2 (hBx.keep (kx.trans k)) (hI.keep ((k0x.trans kx).trans k)) ))
  obtain ⟨r, hr⟩ : ∃ r, B.countA = r := ⟨_, rfl⟩
  rw [hr] at AN ⊢
  obtain ⟨x, e⟩ := r
  dsimp only at AN ⊢
  obtain ⟨mark, llo, lhi, clo, chi, ra, rc, rs⟩ := B
  dsimp only [Wm.v] at *
  clear hI hBx hr
  go_enter Try.func25, Try.ntmps25
  go_wp2_with fail
  refine (AN.out _ (Keeps.refl _)).mono ?_
  rintro en w1 ⟨rfl, k1⟩
  go_wp2_with fail
  go_ret2
  exact ⟨rfl, k0x.trans k1⟩
theorem enter_Clash1 (caps : Array Value) (w : World) : (callFunc 86 caps).run Try.prog w = .ok (.enter 86 caps) w := enters_of Try.func86 (by kernel_rfl) rfl caps w
set_option maxHeartbeats 1600000 in
theorem Clash_any (B : Wm) (w : World) (hI : B.In w) : Calls Try.prog 29 #[B.v] w (Ret (.tuple #[.int .i64 (B.clashA).1, .int .i64 (B.clashA).2]) w) := by
  have hmf : ∀ (fn : Fn) (first cap : Array Value) (w : World), (Instr.makeFunc fn first cap).run Try.prog w = .ok (.func fn first cap) w := fun _ _ _ _ => rfl
  have k0x := ((Keeps.refl w).alloc (.cells #[.int .i64 B.mark, .int .i64 B.llo, .int .i64 B.lhi, .int .i64 B.clo, .int .i64 B.chi, .slice B.ra B.rs.length B.rc] 26))
  have hBx : B.Box (w.alloc (.cells #[.int .i64 B.mark, .int .i64 B.llo, .int .i64 B.lhi, .int .i64 B.clo, .int .i64 B.chi, .slice B.ra B.rs.length B.rc] 26)) w.heap.size := Wm.Box.new B w
  skip
  have AN := Lib.hid (fun w1 (kx : Keeps (w.alloc (.cells #[.int .i64 B.mark, .int .i64 B.llo, .int .i64 B.lhi, .int .i64 B.clo, .int .i64 B.chi, .slice B.ra B.rs.length B.rc] 26)) w1) => answer_int 86 #[.pointer (some ⟨w.heap.size, 0, none⟩)] w1 (B.clashA) (enter_Clash1 _) (zclash B) (fun w2 k => Clash1_out B  _ w2 (hBx.keep (kx.trans k)) (hI.keep ((k0x.trans kx).trans k)) ))
  obtain ⟨r, hr⟩ : ∃ r, B.clashA = r := ⟨_, rfl⟩
  rw [hr] at AN ⊢
  obtain ⟨x, e⟩ := r
  dsimp only at AN ⊢
  obtain ⟨mark, llo, lhi, clo, chi, ra, rc, rs⟩ := B
  dsimp only [Wm.v] at *
  clear hI hBx hr
  go_enter Try.func29, Try.ntmps29
  go_wp2_with fail
  refine (AN.out _ (Keeps.refl _)).mono ?_
  rintro en w1 ⟨rfl, k1⟩
  go_wp2_with fail
  go_ret2
  exact ⟨rfl, k0x.trans k1⟩
theorem enter_Next1 (caps : Array Value) (w : World) : (callFunc 79 caps).run Try.prog w = .ok (.enter 79 caps) w := enters_of Try.func79 (by kernel_rfl) rfl caps w
set_option maxHeartbeats 1600000 in
theorem Next_any (B : Wm) (xs : List Int) (a : Option Addr) (cap : Nat) (w : World) (hI : B.In w) (hX : Ints w a xs) (hxl : xs.length ≤ maxLen) : Calls Try.prog 27 #[B.v, .slice a xs.length cap] w (Ret (.tuple #[.int .i64 (B.nextA xs).1.1, .int .i64 (B.nextA xs).1.2, .int .i64 (B.nextA xs).2]) w) := by
  have hmf : ∀ (fn : Fn) (first cap : Array Value) (w : World), (Instr.makeFunc fn first cap).run Try.prog w = .ok (.func fn first cap) w := fun _ _ _ _ => rfl
  have k0x := ((Keeps.refl w).alloc (.cells #[.int .i64 B.mark, .int .i64 B.llo, .int .i64 B.lhi, .int .i64 B.clo, .int .i64 B.chi, .slice B.ra B.rs.length B.rc] 26)).alloc (.cells #[.slice a xs.length cap] 35)
  have hBx : B.Box ((w.alloc (.cells #[.int .i64 B.mark, .int .i64 B.llo, .int .i64 B.lhi, .int .i64 B.clo, .int .i64 B.chi, .slice B.ra B.rs.length B.rc] 26)).alloc (.cells #[.slice a xs.length cap] 35)) w.heap.size := (Wm.Box.new B w).keep ((Keeps.refl _).alloc _)
  have hc : ((w.alloc (.cells #[.int .i64 B.mark, .int .i64 B.llo, .int .i64 B.lhi, .int .i64 B.clo, .int .i64 B.chi, .slice B.ra B.rs.length B.rc] 26)).alloc (.cells #[.slice a xs.length cap] 35)).cell? ⟨w.heap.size + 1, 0, none⟩ = some (.slice a xs.length cap) := by simp [go_sem]
  have AN := Lib.hid (fun w1 (kx : Keeps ((w.alloc (.cells #[.int .i64 B.mark, .int .i64 B.llo, .int .i64 B.lhi, .int .i64 B.clo, .int .i64 B.chi, .slice B.ra B.rs.length B.rc] 26)).alloc (.cells #[.slice a xs.length cap] 35)) w1) => answer_won 79 #[.pointer (some ⟨w.heap.size, 0, none⟩), .pointer (some ⟨w.heap.size + 1, 0, none⟩)] w1 (B.nextA xs) (enter_Next1 _) (say_zero) (fun w2 k => Next1_out B xs a cap _ _ w2 (hBx.keep (kx.trans k)) (hI.keep ((k0x.trans kx).trans k)) ((kx.trans k).cell hc) (hX.keep ((k0x.trans kx).trans k)) hxl))
  obtain ⟨r, hr⟩ : ∃ r, B.nextA xs = r := ⟨_, rfl⟩
  rw [hr] at AN ⊢
  obtain ⟨⟨x, y⟩, e⟩ := r
  dsimp only [spV] at AN ⊢
  obtain ⟨mark, llo, lhi, clo, chi, ra, rc, rs⟩ := B
  dsimp only [Wm.v] at *
  clear hI hBx hr hc hX
  go_enter Try.func27, Try.ntmps27
  go_wp2_with fail
  refine (AN.out _ (Keeps.refl _)).mono ?_
  rintro en w1 ⟨rfl, k1⟩
  have kw := k0x.trans k1
  have hmx : Try.prog.follows .mixedOrders = true := by kernel_rfl
  have hfw : ∀ f, Fence.wide.fn f := fun _ => trivial
  have ka := (Keeps.refl w1).alloc (.cells #[.int .i64 x, .int .i64 y] 112)
  haveI : Nonempty (Since (w1.alloc (.cells #[.int .i64 x, .int .i64 y] 112)).drew) := Since.some _
  have j0 : ∀ q : Since (w1.alloc (.cells #[.int .i64 x, .int .i64 y] 112)).drew, q.W.cell? ⟨w1.heap.size, 0, none⟩ = some (.int .i64 x) := fun q => ((Keeps.refl _).drew.trans q.keeps).cell (by simp [go_sem])
  have j1 : ∀ q : Since (w1.alloc (.cells #[.int .i64 x, .int .i64 y] 112)).drew, q.W.cell? ⟨w1.heap.size, 1, none⟩ = some (.int .i64 y) := fun q => ((Keeps.refl _).drew.trans q.keeps).cell (by simp [go_sem])
  go_wp2_with fail
  refine (wpIn_wide (n := 3)).1 ?_
  refine region_mix 8 [(0, [0, 1, 2, 3, 4, 5, 6, 7])] (fun _ => trivial) (fun _ _ _ _ hd h => ⟨hd.symm.trans h.1, h.2⟩) (by kernel_rfl) hmx (by kernel_rfl) (by kernel_rfl) ?_
  show wpQuietIn _ _ _ _ _ _ [_, _, _, _, _, _, _, _] _
  iterate 8 (gi_big_quiet_step (fail))
  refine wpQuietIn_nil ?_
  clear j0 j1
  unfold wpMix
  go_wp2_with fail
  refine bodyPost_ret (v := .tuple #[.int .i64 x, .int .i64 y, .int .i64 e]) ?_ rfl ⟨rfl, (kw.trans ka).drew⟩
  simp [results, Try.results27, go_sem]
end Go.Proofs.Ytmhpgjlegajpeaa
