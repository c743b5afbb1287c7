/-
  alive: results that the document fixes; it answers true.
-/
import Derived.Test.YtoidnbpbeblokaaYg
import Derived.Test.YtoidnbpbeblokaaYe
import Derived.Test.YtoidnbpbeblokaaWd
namespace Go.Proofs.Ytoidnbpbeblokaa
open Go.RowKit Go.Shelf

/-- The fringe F of the document's examples, wherever it lies. -/
abbrev F0 (wa ra : Option Addr) (rc : Nat) : Fr := ⟨wa, 3, [12, 20, 17], 100, 200, ra, rc, [(0, 10, 13), (1, 5, 8)]⟩
/-- The fringe N. -/
abbrev F1 (wa ra : Option Addr) (rc : Nat) : Fr := ⟨wa, 3, [12, 20, 17], 100, 200, ra, rc, [(0, 10, 13), (1, 5, 8), (0, 0, 2)]⟩
theorem s0_any (w : World) : Calls Try.prog 21 #[.slice none 0 0] w fun e w' => ∃ wa ra rc, e = .returned (.agg #[.slice wa 3 3, .int .i64 100, .int .i64 200, .slice ra 2 rc]) ∧ (F0 wa ra rc).In w' ∧ Keeps w w' := sample_0 w
theorem s1_any (b : Nat) (w : World) (h0 : w.cell? ⟨b, 0, none⟩ = some (.int .i64 0)) (h1 : w.cell? ⟨b, 1, none⟩ = some (.int .i64 0)) (h2 : w.cell? ⟨b, 2, none⟩ = some (.int .i64 2)) :
    Calls Try.prog 21 #[.slice (some ⟨b, 0, none⟩) 1 1] w fun e w' => ∃ wa ra rc, e = .returned (.agg #[.slice wa 3 3, .int .i64 100, .int .i64 200, .slice ra 3 rc]) ∧ (F1 wa ra rc).In w' ∧ Keeps w w' := sample_1 b 0 0 2 w h0 h1 h2
theorem al_part (wa ra : Option Addr) (rc : Nat) (w : World) (hI : (F0 wa ra rc).In w) : Calls Try.prog 22 #[.agg #[.slice wa 3 3, .int .i64 100, .int .i64 200, .slice ra 2 rc], .int .i64 128, .int .i64 2] w (Ret (.tuple #[.int .i64 7, .int .i64 10, .int .i64 0]) w) := by
  have h := Part_any (F0 wa ra rc) 128 2 w hI
  rw [show partR (F0 wa ra rc) 128 2 = (7, 10, 0) by kernel_rfl] at h
  exact h
theorem al_count (wa ra : Option Addr) (rc : Nat) (w : World) (hI : (F0 wa ra rc).In w) : Calls Try.prog 23 #[.agg #[.slice wa 3 3, .int .i64 100, .int .i64 200, .slice ra 2 rc]] w (Ret (.tuple #[.int .i64 6, .int .i64 0]) w) := by
  have h := Count_any (F0 wa ra rc) w hI
  rw [show countR (F0 wa ra rc) = (6, 0) by kernel_rfl] at h
  exact h
theorem al_near (wa ra : Option Addr) (rc : Nat) (w : World) (hI : (F0 wa ra rc).In w) : Calls Try.prog 20 #[.agg #[.slice wa 3 3, .int .i64 100, .int .i64 200, .slice ra 2 rc], .int .i64 157] w (Ret (.tuple #[.int .i64 128, .int .i64 0]) w) := by
  have h := Near_any (F0 wa ra rc) 157 w hI
  rw [show nearR (F0 wa ra rc) 157 = (128, 0) by kernel_rfl] at h
  exact h
theorem al_period (wa ra : Option Addr) (rc : Nat) (w : World) (hI : (F0 wa ra rc).In w) : Calls Try.prog 33 #[.agg #[.slice wa 3 3, .int .i64 100, .int .i64 200, .slice ra 2 rc]] w (Ret (.tuple #[.int .i64 1020, .int .i64 0]) w) := by
  have h := Period_any (F0 wa ra rc) w hI
  rw [show periodR (F0 wa ra rc) = (1020, 0) by kernel_rfl] at h
  exact h
theorem al_ask (wa ra : Option Addr) (rc : Nat) (w : World) (hI : (F0 wa ra rc).In w) : Calls Try.prog 14 #[.agg #[.slice wa 3 3, .int .i64 100, .int .i64 200, .slice ra 2 rc]] w (Ret (.tuple #[.int .i64 2, .int .i64 1, .int .i64 0]) w) := by
  have h := Ask_any (F0 wa ra rc) w hI
  rw [show askR (F0 wa ra rc) = ((2, 1), 0) by kernel_rfl] at h
  exact h
theorem al_wrong (wa ra : Option Addr) (rc : Nat) (w : World) (hI : (F1 wa ra rc).In w) : Calls Try.prog 16 #[.agg #[.slice wa 3 3, .int .i64 100, .int .i64 200, .slice ra 3 rc]] w (Ret (.tuple #[.int .i64 1, .int .i64 1, .int .i64 0]) w) := by
  have h := Wrong_any (F1 wa ra rc) w hI
  rw [show wrongR (F1 wa ra rc) = (1, 0) by kernel_rfl] at h
  exact h
theorem al_clash (wa ra : Option Addr) (rc : Nat) (w : World) (hI : (F1 wa ra rc).In w) : Calls Try.prog 18 #[.agg #[.slice wa 3 3, .int .i64 100, .int .i64 200, .slice ra 3 rc]] w (Ret (.tuple #[.int .i64 5, .int .i64 0]) w) := by
  have h := Clash_any (F1 wa ra rc) w hI
  rw [show clashR (F1 wa ra rc) = (5, 0) by kernel_rfl] at h
  exact h
theorem al_parts (wa ra : Option Addr) (rc : Nat) (w : World) (hI : (F0 wa ra rc).In w) : Calls Try.prog 26 #[.agg #[.slice wa 3 3, .int .i64 100, .int .i64 200, .slice ra 2 rc], .int .i64 0] w (Ret (.tuple #[.int .i64 11264, .int .i64 0]) w) := by
  have h := Parts_any (F0 wa ra rc) 0 w hI
  rw [show parS (F0 wa ra rc) 0 = 11264 from of_decide_eq_true (by kernel_rfl), show colE (F0 wa ra rc) 0 = 0 by kernel_rfl] at h
  exact h
theorem al_lengths (wa ra : Option Addr) (rc : Nat) (w : World) (hI : (F0 wa ra rc).In w) : Calls Try.prog 27 #[.agg #[.slice wa 3 3, .int .i64 100, .int .i64 200, .slice ra 2 rc]] w fun e w' => ∃ a cap, e = .returned (.tuple #[.slice a 2 cap, .int .i64 0]) ∧ Sps w' a [(126, 128), (186, 188)] ∧ Keeps w w' := by
  refine (Lengths_any (F0 wa ra rc) w hI).mono ?_
  rintro e w' ⟨v, k, rfl, ⟨rfl, hs⟩, hk⟩
  rw [show lenE (F0 wa ra rc) = 0 by kernel_rfl]
  rw [show lenL (F0 wa ra rc) = [(126, 128), (186, 188)] by kernel_rfl] at hs
  obtain ⟨a, cap, rfl, hs⟩ := hs
  exact ⟨a, cap, rfl, hs, hk⟩
theorem al_whole (wa ra : Option Addr) (rc : Nat) (w : World) (hI : (F0 wa ra rc).In w) : Calls Try.prog 25 #[.agg #[.slice wa 3 3, .int .i64 100, .int .i64 200, .slice ra 2 rc], .int .i64 0] w fun e w' => ∃ a cap, e = .returned (.tuple #[.slice a 2 cap, .int .i64 0]) ∧ Ints w' a [10, 15] ∧ Keeps w w' := by
  refine (Whole_any (F0 wa ra rc) 0 w hI).mono ?_
  rintro e w' ⟨v, k, rfl, ⟨rfl, hs⟩, hk⟩
  rw [show colE (F0 wa ra rc) 0 = 0 by kernel_rfl]
  rw [show whoL (F0 wa ra rc) 0 = [10, 15] by kernel_rfl] at hs
  obtain ⟨a, cap, rfl, hs, _⟩ := hs
  exact ⟨a, cap, rfl, hs, hk⟩
theorem spans_cells {w : World} {b : Nat} {p q r s : Int} (h0 : w.cell? ⟨b, 0, none⟩ = some (.int .i64 p)) (h1 : w.cell? ⟨b, 1, none⟩ = some (.int .i64 q)) (h2 : w.cell? ⟨b, 2, none⟩ = some (.int .i64 r)) (h3 : w.cell? ⟨b, 3, none⟩ = some (.int .i64 s)) : Sps w (some ⟨b, 0, none⟩) [(p, q), (r, s)] := fun _ => ⟨b, 0, rfl, fun i hi => by
  match i, hi with
  | 0, _ => exact ⟨h0, h1⟩
  | 1, _ => exact ⟨h2, h3⟩
  | n + 2, h => exact absurd h (by simp)⟩
theorem ints_cells {w : World} {b : Nat} {p q : Int} (h0 : w.cell? ⟨b, 0, none⟩ = some (.int .i64 p)) (h1 : w.cell? ⟨b, 1, none⟩ = some (.int .i64 q)) : Ints w (some ⟨b, 0, none⟩) [p, q] := fun _ => ⟨b, 0, rfl, fun i hi => by
  match i, hi with
  | 0, _ => exact h0
  | 1, _ => exact h1
  | n + 2, h => exact absurd h (by simp)⟩

set_option maxRecDepth 100000 in
set_option maxHeartbeats 8000000 in
theorem alive_any (w : World) : Calls Try.prog 13 #[] w (RetB true w) := by
  have S0 := Lib.hid s0_any
  have S1 := Lib.hid s1_any
  have SP := Lib.hid span_any
  have RD := Lib.hid (read_any 0 0 2)
  have CI := Lib.hid (fun a ca cb w h1 h2 => refInts_any a (some cb) ca 2 [10, 15] [10, 15] w h1 h2 (by simp [maxLen]))
  have CS := Lib.hid (fun a ca cb w h1 h2 => refSpans_any a (some cb) ca 2 [(126, 128), (186, 188)] [(126, 128), (186, 188)] w h1 h2 (by simp [maxLen]))
  have H0 := Lib.hid al_part
  have H1 := Lib.hid al_lengths
  have H2 := Lib.hid al_count
  have H3 := Lib.hid al_near
  have H4 := Lib.hid al_whole
  have H5 := Lib.hid al_parts
  have H6 := Lib.hid al_period
  have H7 := Lib.hid al_ask
  have H8 := Lib.hid al_wrong
  have H9 := Lib.hid al_clash
  go_enter Try.func13, Try.ntmps13
  have k := Keeps.refl w
  go_wp2_with fail
  refine (S0.out _).mono ?_
  rintro e w1 ⟨wa, ra, rc, rfl, hI, k1⟩
  replace k := k.trans k1
  have HI := Lib.hid hI
  clear hI k1
  go_wp2_with fail
  refine (H0.out _ _ _ _ HI.out).mono ?_
  rintro e w2 ⟨rfl, k2⟩
  replace k := k.trans k2
  clear HI k2
  go_wp2_with fail
  refine (S0.out _).mono ?_
  rintro e w1 ⟨wa, ra, rc, rfl, hI, k1⟩
  replace k := k.trans k1
  have HI := Lib.hid hI
  clear hI k1
  go_wp2_with fail
  refine (H1.out _ _ _ _ HI.out).mono ?_
  rintro e wL ⟨al, capl, rfl, hsl, k2⟩
  replace k := k.trans k2
  have HSL := Lib.hid (fun w' (kk : Keeps wL w') => hsl.keep kk)
  have KL := Keeps.refl wL
  clear hsl HI k2
  go_wp2_with fail
  refine (S0.out _).mono ?_
  rintro e w1 ⟨wa, ra, rc, rfl, hI, k1⟩
  replace k := k.trans k1
  replace KL := KL.trans k1
  have HI := Lib.hid hI
  clear hI k1
  go_wp2_with fail
  refine (H2.out _ _ _ _ HI.out).mono ?_
  rintro e w2 ⟨rfl, k2⟩
  replace k := k.trans k2
  replace KL := KL.trans k2
  clear HI k2
  go_wp2_with fail
  refine (S0.out _).mono ?_
  rintro e w1 ⟨wa, ra, rc, rfl, hI, k1⟩
  replace k := k.trans k1
  replace KL := KL.trans k1
  have HI := Lib.hid hI
  clear hI k1
  go_wp2_with fail
  refine (H3.out _ _ _ _ HI.out).mono ?_
  rintro e w2 ⟨rfl, k2⟩
  replace k := k.trans k2
  replace KL := KL.trans k2
  clear HI k2
  go_wp2_with fail
  refine (S0.out _).mono ?_
  rintro e w1 ⟨wa, ra, rc, rfl, hI, k1⟩
  replace k := k.trans k1
  replace KL := KL.trans k1
  have HI := Lib.hid hI
  clear hI k1
  go_wp2_with fail
  refine (H4.out _ _ _ _ HI.out).mono ?_
  rintro e wI ⟨ai, capi, rfl, hsi, k2⟩
  replace k := k.trans k2
  replace KL := KL.trans k2
  have HSI := Lib.hid (fun w' (kk : Keeps wI w') => hsi.keep kk)
  have KI := Keeps.refl wI
  clear hsi HI k2
  go_wp2_with fail
  refine (S0.out _).mono ?_
  rintro e w1 ⟨wa, ra, rc, rfl, hI, k1⟩
  replace k := k.trans k1
  replace KL := KL.trans k1
  replace KI := KI.trans k1
  have HI := Lib.hid hI
  clear hI k1
  go_wp2_with fail
  refine (H5.out _ _ _ _ HI.out).mono ?_
  rintro e w2 ⟨rfl, k2⟩
  replace k := k.trans k2
  replace KL := KL.trans k2
  replace KI := KI.trans k2
  clear HI k2
  go_wp2_with fail
  refine (S0.out _).mono ?_
  rintro e w1 ⟨wa, ra, rc, rfl, hI, k1⟩
  replace k := k.trans k1
  replace KL := KL.trans k1
  replace KI := KI.trans k1
  have HI := Lib.hid hI
  clear hI k1
  go_wp2_with fail
  refine (H6.out _ _ _ _ HI.out).mono ?_
  rintro e w2 ⟨rfl, k2⟩
  replace k := k.trans k2
  replace KL := KL.trans k2
  replace KI := KI.trans k2
  clear HI k2
  go_wp2_with fail
  refine (S0.out _).mono ?_
  rintro e w1 ⟨wa, ra, rc, rfl, hI, k1⟩
  replace k := k.trans k1
  replace KL := KL.trans k1
  replace KI := KI.trans k1
  have HI := Lib.hid hI
  clear hI k1
  go_wp2_with fail
  refine (H7.out _ _ _ _ HI.out).mono ?_
  rintro e w2 ⟨rfl, k2⟩
  replace k := k.trans k2
  replace KL := KL.trans k2
  replace KI := KI.trans k2
  clear HI k2
  go_wp2_with fail
  refine (RD.out _).mono ?_
  rintro e w0 ⟨rfl, k0⟩
  replace k := k.trans k0
  replace KL := KL.trans k0
  replace KI := KI.trans k0
  clear k0
  go_wp2_with fail
  refine (S1.out w0.heap.size _ (by simp [go_sem]) (by simp [go_sem]) (by simp [go_sem])).mono ?_
  rintro e w1 ⟨wa, ra, rc, rfl, hI, k1⟩
  replace k := (k.alloc _).trans k1
  replace KL := (KL.alloc _).trans k1
  replace KI := (KI.alloc _).trans k1
  have HI := Lib.hid hI
  clear hI k1
  go_wp2_with fail
  refine (H8.out _ _ _ _ HI.out).mono ?_
  rintro e w2 ⟨rfl, k2⟩
  replace k := k.trans k2
  replace KL := KL.trans k2
  replace KI := KI.trans k2
  clear HI k2
  go_wp2_with fail
  refine (RD.out _).mono ?_
  rintro e w0 ⟨rfl, k0⟩
  replace k := k.trans k0
  replace KL := KL.trans k0
  replace KI := KI.trans k0
  clear k0
  go_wp2_with fail
  refine (S1.out w0.heap.size _ (by simp [go_sem]) (by simp [go_sem]) (by simp [go_sem])).mono ?_
  rintro e w1 ⟨wa, ra, rc, rfl, hI, k1⟩
  replace k := (k.alloc _).trans k1
  replace KL := (KL.alloc _).trans k1
  replace KI := (KI.alloc _).trans k1
  have HI := Lib.hid hI
  clear hI k1
  go_wp2_with fail
  refine (H9.out _ _ _ _ HI.out).mono ?_
  rintro e w2 ⟨rfl, k2⟩
  replace k := k.trans k2
  replace KL := KL.trans k2
  replace KI := KI.trans k2
  clear HI k2
  clear S0 S1 RD H0 H1 H2 H3 H4 H5 H6 H7 H8 H9
  go_wp2_with fail
  refine (SP.out _ _ _).mono ?_
  rintro e w3 ⟨rfl, k3⟩
  replace k := k.trans k3
  replace KL := KL.trans k3
  replace KI := KI.trans k3
  clear k3
  go_wp2_with fail
  refine (SP.out _ _ _).mono ?_
  rintro e w4 ⟨rfl, k3⟩
  replace k := (k.trans k3).alloc (.cells #[.int .i64 126, .int .i64 128, .int .i64 186, .int .i64 188] 24)
  replace KL := (KL.trans k3).alloc (.cells #[.int .i64 126, .int .i64 128, .int .i64 186, .int .i64 188] 24)
  replace KI := (KI.trans k3).alloc (.cells #[.int .i64 126, .int .i64 128, .int .i64 186, .int .i64 188] 24)
  clear k3 SP
  go_wp2_with fail
  refine (CS.out _ _ _ _ (HSL.out _ KL) (spans_cells (by simp [go_sem]) (by simp [go_sem]) (by simp [go_sem]) (by simp [go_sem]))).mono ?_
  rintro e w5 ⟨rfl, k3⟩
  replace k := (k.trans k3).alloc (.cells #[.int .i64 10, .int .i64 15] 3)
  replace KI := (KI.trans k3).alloc (.cells #[.int .i64 10, .int .i64 15] 3)
  clear k3 CS HSL KL
  go_wp2_with fail
  refine (CI.out _ _ _ _ (HSI.out _ KI) (ints_cells (by simp [go_sem]) (by simp [go_sem]))).mono ?_
  rintro e w6 ⟨rfl, k3⟩
  replace k := k.trans k3
  clear k3 CI HSI KI
  go_wp2_with fail
  go_ret
  exact ⟨rfl, k⟩
end Go.Proofs.Ytoidnbpbeblokaa
