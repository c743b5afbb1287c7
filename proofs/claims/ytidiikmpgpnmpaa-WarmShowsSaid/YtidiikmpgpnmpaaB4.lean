/-
  WARM: readings: each reading as an interface value.
-/
import Derived.Test.YtidiikmpgpnmpaaA8
namespace Go.Proofs.Ytidiikmpgpnmpaa
open Go.RowKit

/-- The slice at a holds these readings, an interface value each. -/
def Rgs (w : World) (a : Option Addr) (rs : List Wr) : Prop :=
  rs ≠ [] → ∃ b o, a = some ⟨b, o, none⟩ ∧ ∀ i, i < rs.length → w.cell? ⟨b, o + i, none⟩ = some (rdV (rs[i]?.getD (0, 0, 0, 0)))
theorem Rgs.keep {w w' : World} {a : Option Addr} {xs : List Wr} (h : Rgs w a xs) (k : Keeps w w') : Rgs w' a xs := by
  intro hx
  obtain ⟨b, o, e, hc⟩ := h hx
  exact ⟨b, o, e, fun i hi => k.cell (hc i hi)⟩
theorem make_readings (n : Nat) (h : n ≤ 5) (w : World) : (Instr.makeSlice 96 (.int .i64 n) (.int .i64 n)).run Try.prog w = .ok (.slice (some ⟨w.heap.size, 0, none⟩) n n) (w.alloc (.cells (Array.replicate n .nilIface) 95)) := by
  rcases n with _ | _ | _ | _ | _ | _ | n
  · kernel_rfl
  · kernel_rfl
  · kernel_rfl
  · kernel_rfl
  · kernel_rfl
  · kernel_rfl
  · omega
theorem row_step (f : Nat → Value) {w wr W5 : World} {n k : Nat} {V B : Value} (hb : wr.cell? ⟨w.heap.size, 5, none⟩ = some B)
    (hcs : ∀ j, j < n → (wr.cell? ⟨w.heap.size + 1, j, none⟩).isSome = true ∧ wr.frozen? ⟨w.heap.size + 1, j, none⟩ = false)
    (hdone : ∀ j, j < k → wr.cell? ⟨w.heap.size + 1, j, none⟩ = some (f j)) (hkp : Keeps w wr) (hsz : w.heap.size + 1 < wr.heap.size) (hlt : k < n) (hV : V = f k)
    (kS : Keeps (wr.setCell ⟨w.heap.size + 1, k, none⟩ V) W5) :
    W5.cell? ⟨w.heap.size, 5, none⟩ = some B ∧ (∀ j, j < n → (W5.cell? ⟨w.heap.size + 1, j, none⟩).isSome = true ∧ W5.frozen? ⟨w.heap.size + 1, j, none⟩ = false) ∧
      (∀ j, j < k + 1 → W5.cell? ⟨w.heap.size + 1, j, none⟩ = some (f j)) ∧ Keeps w W5 ∧ w.heap.size + 1 < W5.heap.size := by
  have hk1 : W5.cell? ⟨w.heap.size + 1, k, none⟩ = some V := kS.cell (cell_set_same (hcs k hlt).1)
  have hoth : ∀ j v, j ≠ k → wr.cell? ⟨w.heap.size + 1, j, none⟩ = some v → W5.cell? ⟨w.heap.size + 1, j, none⟩ = some v := fun j v hj hv => kS.cell ((cell_set_other (by omega)).trans hv)
  have hsz2 : (wr.setCell ⟨w.heap.size + 1, k, none⟩ V).heap.size = wr.heap.size := by simp [World.setCell]
  refine ⟨kS.cell ((cell_set_other (by omega)).trans hb), fun j hj => ⟨?_, ?_⟩, fun j hj => ?_, (hkp.setCell _ (by simp)).trans kS, by have := kS.size; omega⟩
  · by_cases e : j = k
    · subst e; rw [hk1]; rfl
    · obtain ⟨v, hv⟩ := Option.isSome_iff_exists.1 (hcs j hj).1
      rw [hoth j v e hv]; rfl
  · rw [kS.cells.2 _ _ (by omega), World.frozen?_setCell]; exact (hcs j hj).2
  · by_cases e : j = k
    · subst e; rw [hk1, hV]
    · exact hoth j _ e (hdone j (by omega))
theorem Wm.ok_reads {B : Wm} (h : B.ok = true) : vWrs B.rs = true := by
  simp only [Wm.ok, Bool.and_eq_true] at h
  exact h.2
theorem vWrs_at {rs : List Wr} (h : vWrs rs = true) : rs.length ≤ 5 ∧ ∀ r ∈ rs, vWr r = true := by
  simp only [vWrs, Bool.and_eq_true, decide_eq_true_eq, List.all_eq_true] at h
  exact h
theorem vWr_okW {r : Wr} (h : vWr r = true) : okW r := by
  simp only [vWr, Bool.and_eq_true, decide_eq_true_eq] at h
  exact inS_bd h.1.1

set_option maxHeartbeats 1600000 in
theorem readings_any (B : Wm) (w : World) (hI : B.In w) (hok : B.ok = true) :
    Calls Try.prog 61 #[B.v] w fun e w' => e = .returned (.slice (some ⟨w.heap.size + 1, 0, none⟩) B.rs.length B.rs.length) ∧ Rgs w' (some ⟨w.heap.size + 1, 0, none⟩) B.rs ∧ Keeps w w' ∧ w.heap.size + 1 < w'.heap.size := by
  have hrl := (vWrs_at (Wm.ok_reads hok)).1
  have hmk := make_readings B.rs.length hrl
  have HI := Lib.hid hI
  obtain ⟨mark, llo, lhi, clo, chi, ra, rc, rs⟩ := B
  dsimp only [Wm.v] at *
  clear hok hI
  go_enter Try.func61, Try.ntmps61
  go_wp2
  go_loopw [14] (fun i wr => ∃ k : Nat, k ≤ rs.length ∧ i = .int .i64 k ∧ wr.cell? ⟨w.heap.size, 5, none⟩ = some (.slice ra rs.length rc) ∧ (∀ j, j < rs.length → (wr.cell? ⟨w.heap.size + 1, j, none⟩).isSome = true ∧ wr.frozen? ⟨w.heap.size + 1, j, none⟩ = false) ∧ (∀ j, j < k → wr.cell? ⟨w.heap.size + 1, j, none⟩ = some (rdV (rs[j]?.getD (0, 0, 0, 0)))) ∧ Keeps w wr ∧ w.heap.size + 1 < wr.heap.size) (fun i _ => rs.length - (intOf i).toNat)
  case atStart =>
    refine ⟨0, Nat.zero_le _, rfl, by simp [go_sem], fun j hj => ⟨?_, ?_⟩, fun j hj => absurd hj (by omega), ((Keeps.refl _).alloc _).alloc _, by simp⟩
    · simp [go_sem, hj]
    · simp [go_sem]
  case round =>
    obtain ⟨k, hk, rfl, hb, hcs, hdone, hkp, hsz⟩ := hrel
    by_cases hlt : k < rs.length
    · obtain ⟨rb, ro, rfl, hr⟩ := (HI.out.rds).keep hkp (by intro e; simp only at e; rw [e] at hlt; simp at hlt)
      obtain ⟨⟨t, t', x, y⟩, hrk⟩ : ∃ r : Wr, rs[k]?.getD (0, 0, 0, 0) = r := ⟨_, rfl⟩
      have h2 := hr k hlt
      dsimp only at h2
      rw [hrk] at h2
      dsimp only at h2
      obtain ⟨h2a, h2b, h2c, h2d⟩ := h2
      obtain ⟨hs1, hf1⟩ := hcs k hlt
      obtain ⟨old, hold⟩ := Option.isSome_iff_exists.1 hs1
      have hlb := lt_of_cell h2a
      have hlbx := lt_of_cell hb
      have Hcs := Lib.hid hcs
      have Hd := Lib.hid hdone
      have Hrk := Lib.hid hrk
      clear hr hrk hcs hdone hs1
      by_cases hy : t = t'
      · subst hy
        have hV : Value.iface 135 (.agg #[.int .i64 t, .int .i64 x, .int .i64 y]) = rdV (rs[k]?.getD (0, 0, 0, 0)) := by
          rw [Hrk.out, rdV, if_pos rfl]
        have HV := Lib.hid hV
        clear hV
        go_wp2
        go_roundw
        case rel => exact ⟨k + 1, by omega, by go_num, row_step (fun j => rdV (rs[j]?.getD (0, 0, 0, 0))) hb Hcs.out Hd.out hkp hsz hlt HV.out (by first | exact (((Keeps.refl _).alloc _).alloc _) | exact (((Keeps.refl _).alloc _).alloc _).drew)⟩
        case measure => simp [intOf]; omega
      · have hV : Value.iface 137 (.agg #[.int .i64 t, .int .i64 x, .int .i64 y, .int .i64 t']) = rdV (rs[k]?.getD (0, 0, 0, 0)) := by
          rw [Hrk.out, rdV, if_neg hy]
        have HV := Lib.hid hV
        have hyb : (t == t') = false := by simpa using hy
        clear hV
        go_wp2
        go_roundw
        case rel => exact ⟨k + 1, by omega, by go_num, row_step (fun j => rdV (rs[j]?.getD (0, 0, 0, 0))) hb Hcs.out Hd.out hkp hsz hlt HV.out (by first | exact (((Keeps.refl _).alloc _).alloc _) | exact (((Keeps.refl _).alloc _).alloc _).drew)⟩
        case measure => simp [intOf]; omega
    · go_wp2
      go_ret
      refine ⟨rfl, fun hne => ⟨w.heap.size + 1, 0, rfl, fun i hi => ?_⟩, hkp, hsz⟩
      have h1 := hdone i (by omega)
      rw [Nat.zero_add, h1]
end Go.Proofs.Ytidiikmpgpnmpaa
