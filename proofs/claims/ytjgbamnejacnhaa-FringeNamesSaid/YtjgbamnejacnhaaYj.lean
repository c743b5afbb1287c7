/-
  FringeNames: the chapter's examples hold.
-/
import Derived.Test.YtjgbamnejacnhaaYi
namespace Go.Proofs.Ytjgbamnejacnhaa
open Go.RowKit Go.Shelf

theorem nm_near150 (wa ra : Option Addr) (rc : Nat) (w : World) (hI : (F0 wa ra rc).In w) : Calls Try.prog 20 #[.agg #[.slice wa 3 3, .int .i64 100, .int .i64 200, .slice ra 2 rc], .int .i64 150] w (Ret (.tuple #[.int .i64 128, .int .i64 0]) w) := by
  have h := Near_any (F0 wa ra rc) 150 w hI
  rw [show nearR (F0 wa ra rc) 150 = (128, 0) by kernel_rfl] at h
  exact h
theorem nm_near158 (wa ra : Option Addr) (rc : Nat) (w : World) (hI : (F0 wa ra rc).In w) : Calls Try.prog 20 #[.agg #[.slice wa 3 3, .int .i64 100, .int .i64 200, .slice ra 2 rc], .int .i64 158] w (Ret (.tuple #[.int .i64 186, .int .i64 0]) w) := by
  have h := Near_any (F0 wa ra rc) 158 w hI
  rw [show nearR (F0 wa ra rc) 158 = (186, 0) by kernel_rfl] at h
  exact h
theorem nm_near2000 (wa ra : Option Addr) (rc : Nat) (w : World) (hI : (F0 wa ra rc).In w) : Calls Try.prog 20 #[.agg #[.slice wa 3 3, .int .i64 100, .int .i64 200, .slice ra 2 rc], .int .i64 2000] w (Ret (.tuple #[.int .i64 188, .int .i64 0]) w) := by
  have h := Near_any (F0 wa ra rc) 2000 w hI
  rw [show nearR (F0 wa ra rc) 2000 = (188, 0) by kernel_rfl] at h
  exact h
theorem nm_part1 (wa ra : Option Addr) (rc : Nat) (w : World) (hI : (F0 wa ra rc).In w) : Calls Try.prog 22 #[.agg #[.slice wa 3 3, .int .i64 100, .int .i64 200, .slice ra 2 rc], .int .i64 126, .int .i64 0] w (Ret (.tuple #[.int .i64 10, .int .i64 10, .int .i64 0]) w) := by
  have h := Part_any (F0 wa ra rc) 126 0 w hI
  rw [show partR (F0 wa ra rc) 126 0 = (10, 10, 0) by kernel_rfl] at h
  exact h
theorem nm_part2 (wa ra : Option Addr) (rc : Nat) (w : World) (hI : (F0 wa ra rc).In w) : Calls Try.prog 22 #[.agg #[.slice wa 3 3, .int .i64 100, .int .i64 200, .slice ra 2 rc], .int .i64 0, .int .i64 1] w (Ret (.tuple #[.int .i64 0, .int .i64 0, .int .i64 0]) w) := by
  have h := Part_any (F0 wa ra rc) 0 1 w hI
  rw [show partR (F0 wa ra rc) 0 1 = (0, 0, 0) by kernel_rfl] at h
  exact h
theorem nm_count (wa ra : Option Addr) (rc : Nat) (w : World) (hI : (F1 wa ra rc).In w) : Calls Try.prog 23 #[.agg #[.slice wa 3 3, .int .i64 100, .int .i64 200, .slice ra 3 rc]] w (Ret (.tuple #[.int .i64 0, .int .i64 0]) w) := by
  have h := Count_any (F1 wa ra rc) w hI
  rw [show countR (F1 wa ra rc) = (0, 0) by kernel_rfl] at h
  exact h
theorem nm_wrong (wa ra : Option Addr) (rc : Nat) (w : World) (hI : (F0 wa ra rc).In w) : Calls Try.prog 16 #[.agg #[.slice wa 3 3, .int .i64 100, .int .i64 200, .slice ra 2 rc]] w (Ret (.tuple #[.int .i64 0, .int .i64 0, .int .i64 0]) w) := by
  have h := Wrong_any (F0 wa ra rc) w hI
  rw [show wrongR (F0 wa ra rc) = (0, 0) by kernel_rfl] at h
  exact h
theorem nm_clash (wa ra : Option Addr) (rc : Nat) (w : World) (hI : (F0 wa ra rc).In w) : Calls Try.prog 18 #[.agg #[.slice wa 3 3, .int .i64 100, .int .i64 200, .slice ra 2 rc]] w (Ret (.tuple #[.int .i64 0, .int .i64 4]) w) := by
  have h := Clash_any (F0 wa ra rc) w hI
  rw [show clashR (F0 wa ra rc) = (0, 4) by kernel_rfl] at h
  exact h
theorem nm_parts (wa ra : Option Addr) (rc : Nat) (w : World) (hI : (F0 wa ra rc).In w) : Calls Try.prog 26 #[.agg #[.slice wa 3 3, .int .i64 100, .int .i64 200, .slice ra 2 rc], .int .i64 1] w (Ret (.tuple #[.int .i64 448, .int .i64 0]) w) := by
  have h := Parts_any (F0 wa ra rc) 1 w hI
  rw [show parS (F0 wa ra rc) 1 = 448 from of_decide_eq_true (by kernel_rfl), show colE (F0 wa ra rc) 1 = 0 by kernel_rfl] at h
  exact h
theorem nm_lengths (wa ra : Option Addr) (rc : Nat) (w : World) (hI : (F1 wa ra rc).In w) : Calls Try.prog 27 #[.agg #[.slice wa 3 3, .int .i64 100, .int .i64 200, .slice ra 3 rc]] w fun e w' => ∃ a cap, e = .returned (.tuple #[.slice a 0 cap, .int .i64 10]) ∧ Keeps w w' := by
  refine (Lengths_any (F1 wa ra rc) w hI).mono ?_
  rintro e w' ⟨v, k, rfl, ⟨rfl, hs⟩, hk⟩
  rw [show lenE (F1 wa ra rc) = 10 by kernel_rfl]
  rw [show lenL (F1 wa ra rc) = [] by kernel_rfl] at hs
  obtain ⟨a, cap, rfl, _⟩ := hs
  exact ⟨a, cap, rfl, hk⟩
theorem nm_whole (wa ra : Option Addr) (rc : Nat) (w : World) (hI : (F0 wa ra rc).In w) : Calls Try.prog 25 #[.agg #[.slice wa 3 3, .int .i64 100, .int .i64 200, .slice ra 2 rc], .int .i64 1] w fun e w' => ∃ a cap, e = .returned (.tuple #[.slice a 2 cap, .int .i64 0]) ∧ Ints w' a [6, 9] ∧ Keeps w w' := by
  refine (Whole_any (F0 wa ra rc) 1 w hI).mono ?_
  rintro e w' ⟨v, k, rfl, ⟨rfl, hs⟩, hk⟩
  rw [show colE (F0 wa ra rc) 1 = 0 by kernel_rfl]
  rw [show whoL (F0 wa ra rc) 1 = [6, 9] by kernel_rfl] at hs
  obtain ⟨a, cap, rfl, hs, _⟩ := hs
  exact ⟨a, cap, rfl, hs, hk⟩
/-- The wishes of the examples, and the lengths that are nearest to them. -/
def nmT : List Sp := [(150, 128), (158, 186), (2000, 188)]
theorem nm_near (k : Nat) (h : k < 3) (wa ra : Option Addr) (rc : Nat) (w : World) (hI : (F0 wa ra rc).In w) : Calls Try.prog 20 #[.agg #[.slice wa 3 3, .int .i64 100, .int .i64 200, .slice ra 2 rc], .int .i64 (nmT[k]?.getD (0, 0)).1] w (Ret (.tuple #[.int .i64 (nmT[k]?.getD (0, 0)).2, .int .i64 0]) w) := by
  match k, h with
  | 0, _ => exact nm_near150 wa ra rc w hI
  | 1, _ => exact nm_near158 wa ra rc w hI
  | 2, _ => exact nm_near2000 wa ra rc w hI
  | n + 3, h => exact absurd h (by omega)
theorem nm_cells (w : World) (t : TypeId) : ∀ i, i < 3 → (w.alloc (.cells #[.int .i64 150, .int .i64 128, .int .i64 158, .int .i64 186, .int .i64 2000, .int .i64 188] t)).cell? ⟨w.heap.size, i * 2, none⟩ = some (.int .i64 (nmT[i]?.getD (0, 0)).1) ∧
    (w.alloc (.cells #[.int .i64 150, .int .i64 128, .int .i64 158, .int .i64 186, .int .i64 2000, .int .i64 188] t)).cell? ⟨w.heap.size, i * 2 + 1, none⟩ = some (.int .i64 (nmT[i]?.getD (0, 0)).2) := by
  intro i hi
  match i, hi with
  | 0, _ => exact ⟨by simp [go_sem, nmT], by simp [go_sem, nmT]⟩
  | 1, _ => exact ⟨by simp [go_sem, nmT], by simp [go_sem, nmT]⟩
  | 2, _ => exact ⟨by simp [go_sem, nmT], by simp [go_sem, nmT]⟩
  | n + 3, h => exact absurd h (by omega)

set_option maxRecDepth 100000 in
set_option maxHeartbeats 8000000 in
theorem names_any (w : World) : Calls Try.prog 4 #[] w (RetB true w) := by
  have S0 := Lib.hid s0_any
  have S1 := Lib.hid s1_any
  have AL := Lib.hid alive_any
  have RD := Lib.hid (read_any 0 0 2)
  have NN := Lib.hid nm_near
  have NC := Lib.hid (nm_cells w 35)
  have CI := Lib.hid (fun a ca cb w h1 h2 => refInts_any a (some cb) ca 2 [6, 9] [6, 9] w h1 h2 (by simp [maxLen]))
  have H0 := Lib.hid nm_part1
  have H1 := Lib.hid nm_part2
  have H2 := Lib.hid nm_count
  have H3 := Lib.hid nm_whole
  have H4 := Lib.hid nm_parts
  have H5 := Lib.hid nm_wrong
  have H6 := Lib.hid nm_clash
  have H7 := Lib.hid nm_lengths
  go_enter Try.func4, Try.ntmps4
  go_wp2_with fail
  have k := (Keeps.refl w).alloc (.cells #[.int .i64 150, .int .i64 128, .int .i64 158, .int .i64 186, .int .i64 2000, .int .i64 188] 35)
  obtain ⟨w0, hw0⟩ : ∃ w0, w.alloc (.cells #[.int .i64 150, .int .i64 128, .int .i64 158, .int .i64 186, .int .i64 2000, .int .i64 188] 35) = w0 := ⟨_, rfl⟩
  rw [hw0] at k NC ⊢
  clear hw0
  go_loopw [29] (fun i wr => ∃ k : Nat, k ≤ 3 ∧ i = .int .i64 k ∧ Keeps w0 wr) (fun i _ => 3 - (intOf i).toNat)
  case atStart => exact ⟨0, Nat.zero_le _, rfl, Keeps.refl _⟩
  case round =>
    obtain ⟨j, hj, rfl, hkp⟩ := hrel
    by_cases hlt : j < 3
    · obtain ⟨h1, h2⟩ := NC.out j hlt
      replace h1 := hkp.cell h1
      replace h2 := hkp.cell h2
      have hlr := lt_of_cell h1
      have HN := Lib.hid (NN.out j hlt)
      obtain ⟨⟨p, q⟩, hpq⟩ : ∃ x, nmT[j]?.getD (0, 0) = x := ⟨_, rfl⟩
      rw [hpq] at HN h1 h2
      dsimp only at HN h1 h2
      clear hpq
      go_wp2_with fail
      have ka := hkp.alloc (.cells #[.int .i64 p, .int .i64 q] 35)
      have HS := Lib.hid (fun (w' : World) (kk : Keeps (wr.alloc (.cells #[.int .i64 p, .int .i64 q] 35)) w') => show w'.cell? ⟨wr.heap.size, 0, none⟩ = some (.int .i64 p) ∧ w'.cell? ⟨wr.heap.size, 1, none⟩ = some (.int .i64 q) ∧ Keeps w0 w' from ⟨kk.cell (by simp [go_sem]), kk.cell (by simp [go_sem]), ka.trans kk⟩)
      go_region_held3 (fun w' => w'.cell? ⟨wr.heap.size, 0, none⟩ = some (.int .i64 p) ∧ w'.cell? ⟨wr.heap.size, 1, none⟩ = some (.int .i64 q) ∧ Keeps w0 w')
        (first | exact HS.out _ (Keeps.refl _).drew | exact HS.out _ (Keeps.refl _) | exact HS.out _ k5 | exact HS.out _ k6)
        (first | (go_at_call 21; refine (S0.out _).mono ?_; rintro e w4 ⟨wa, ra, rc, rfl, hI, k4⟩; have k5 := k4.undrew) | (go_at_call 20; refine (HN.out _ _ _ _ hI).mono ?_; rintro e w5 ⟨rfl, k6⟩; have k6 := k5.trans k6))
      all_goals
        obtain ⟨z1, z2, z3⟩ := HS.out _ k6
        go_wp2
        go_roundw
        case rel => exact ⟨j + 1, by omega, by go_num, z3⟩
        case measure => simp [intOf]; omega
    · have k := k.trans hkp
      clear NN NC hkp
      go_wp2_with fail
      refine (S0.out _).mono ?_
      rintro e w1 ⟨wa, ra, rc, rfl, hI, k1⟩
      replace k := k.trans k1
      have HI := Lib.hid hI
      clear hI k1
      go_wp2_with fail
      refine (H0.out _ _ _ _ HI.out).mono ?_
      rintro e w2 ⟨rfl, k2⟩
      replace k := k.trans k2
      clear HI k2
      go_wp2_with fail
      refine (S0.out _).mono ?_
      rintro e w1 ⟨wa, ra, rc, rfl, hI, k1⟩
      replace k := k.trans k1
      have HI := Lib.hid hI
      clear hI k1
      go_wp2_with fail
      refine (H1.out _ _ _ _ HI.out).mono ?_
      rintro e w2 ⟨rfl, k2⟩
      replace k := k.trans k2
      clear HI k2
      go_wp2_with fail
      refine (RD.out _).mono ?_
      rintro e w9 ⟨rfl, k0⟩
      replace k := k.trans k0
      clear k0
      go_wp2_with fail
      refine (S1.out w9.heap.size _ (by simp [go_sem]) (by simp [go_sem]) (by simp [go_sem])).mono ?_
      rintro e w1 ⟨wa, ra, rc, rfl, hI, k1⟩
      replace k := (k.alloc _).trans k1
      have HI := Lib.hid hI
      clear hI k1
      go_wp2_with fail
      refine (H2.out _ _ _ _ HI.out).mono ?_
      rintro e w2 ⟨rfl, k2⟩
      replace k := k.trans k2
      clear HI k2
      go_wp2_with fail
      refine (S0.out _).mono ?_
      rintro e w1 ⟨wa, ra, rc, rfl, hI, k1⟩
      replace k := k.trans k1
      have HI := Lib.hid hI
      clear hI k1
      go_wp2_with fail
      refine (H3.out _ _ _ _ HI.out).mono ?_
      rintro e wI ⟨ai, capi, rfl, hsi, k2⟩
      replace k := k.trans k2
      have HSI := Lib.hid (fun w' (kk : Keeps wI w') => hsi.keep kk)
      have KI := Keeps.refl wI
      clear hsi HI k2
      go_wp2_with fail
      refine (S0.out _).mono ?_
      rintro e w1 ⟨wa, ra, rc, rfl, hI, k1⟩
      replace k := k.trans k1
      replace KI := KI.trans k1
      have HI := Lib.hid hI
      clear hI k1
      go_wp2_with fail
      refine (H4.out _ _ _ _ HI.out).mono ?_
      rintro e w2 ⟨rfl, k2⟩
      replace k := k.trans k2
      replace KI := KI.trans k2
      clear HI k2
      go_wp2_with fail
      refine (S0.out _).mono ?_
      rintro e w1 ⟨wa, ra, rc, rfl, hI, k1⟩
      replace k := k.trans k1
      replace KI := KI.trans k1
      have HI := Lib.hid hI
      clear hI k1
      go_wp2_with fail
      refine (H5.out _ _ _ _ HI.out).mono ?_
      rintro e w2 ⟨rfl, k2⟩
      replace k := k.trans k2
      replace KI := KI.trans k2
      clear HI k2
      go_wp2_with fail
      refine (S0.out _).mono ?_
      rintro e w1 ⟨wa, ra, rc, rfl, hI, k1⟩
      replace k := k.trans k1
      replace KI := KI.trans k1
      have HI := Lib.hid hI
      clear hI k1
      go_wp2_with fail
      refine (H6.out _ _ _ _ HI.out).mono ?_
      rintro e w2 ⟨rfl, k2⟩
      replace k := k.trans k2
      replace KI := KI.trans k2
      clear HI k2
      go_wp2_with fail
      refine (RD.out _).mono ?_
      rintro e w9 ⟨rfl, k0⟩
      replace k := k.trans k0
      replace KI := KI.trans k0
      clear k0
      go_wp2_with fail
      refine (S1.out w9.heap.size _ (by simp [go_sem]) (by simp [go_sem]) (by simp [go_sem])).mono ?_
      rintro e w1 ⟨wa, ra, rc, rfl, hI, k1⟩
      replace k := (k.alloc _).trans k1
      replace KI := (KI.alloc _).trans k1
      have HI := Lib.hid hI
      clear hI k1
      go_wp2_with fail
      refine (H7.out _ _ _ _ HI.out).mono ?_
      rintro e w2 ⟨al, capl, rfl, k2⟩
      replace k := k.trans k2
      replace KI := KI.trans k2
      clear HI k2
      clear S0 S1 RD H0 H1 H2 H3 H4 H5 H6 H7
      go_wp2_with fail
      refine (AL.out _).mono ?_
      rintro e w3 ⟨rfl, k3⟩
      replace k := (k.trans k3).alloc (.cells #[.int .i64 6, .int .i64 9] 3)
      replace KI := (KI.trans k3).alloc (.cells #[.int .i64 6, .int .i64 9] 3)
      clear k3 AL
      go_wp2_with fail
      refine (CI.out _ _ _ _ (HSI.out _ KI) (ints_cells (by simp [go_sem]) (by simp [go_sem]))).mono ?_
      rintro e w6 ⟨rfl, k3⟩
      replace k := k.trans k3
      clear k3 CI HSI KI
      go_wp2_with fail
      go_ret
      exact ⟨rfl, k⟩

end Go.Proofs.Ytjgbamnejacnhaa
