/-
  readings: each reading with its wave.
-/
import Derived.Test.YtgbojgachgodgaaWf
import Derived.BigRegion
namespace Go.Proofs.Ytgbojgachgodgaa
open Go.RowKit

def rgOf (ws : List Int) (r : Rd) : Rg := (ws[r.1.toNat]?.getD 0, r.2.1, r.2.2)
def Fr.gs (F : Fr) : List Rg := F.rs.map (rgOf F.ws)
theorem Fr.rd_in (F : Fr) (h : F.ok = true) {k : Nat} (hk : k < F.rs.length) : 0 ≤ (F.rs[k]?.getD (0, 0, 0)).1 ∧ (F.rs[k]?.getD (0, 0, 0)).1 < F.ws.length ∧ vPart (F.rs[k]?.getD (0, 0, 0)).2.1 (F.rs[k]?.getD (0, 0, 0)).2.2 = true := by
  simp only [Fr.ok, vFringe, vReads, Bool.and_eq_true, List.all_eq_true, vRead, decide_eq_true_eq] at h
  have := h.2.2 F.rs[k] (List.getElem_mem hk)
  simp only [List.getElem?_eq_getElem hk, Option.getD_some]
  exact ⟨this.1.1, this.1.2, this.2⟩
theorem Fr.rl_in (F : Fr) (h : F.ok = true) : F.rs.length ≤ 6 := by
  simp only [Fr.ok, vFringe, vReads, Bool.and_eq_true, decide_eq_true_eq] at h
  exact h.2.1

theorem make_readings (n : Nat) (h : n ≤ 6) (w : World) : (Instr.makeSlice 87 (.int .i64 n) (.int .i64 n)).run Try.prog w = .ok (.slice (some ⟨w.heap.size, 0, none⟩) n n) (w.alloc (.cells (Array.replicate n .nilIface) 139)) := by
  rcases n with _ | _ | _ | _ | _ | _ | _ | n
  · kernel_rfl
  · kernel_rfl
  · kernel_rfl
  · kernel_rfl
  · kernel_rfl
  · kernel_rfl
  · kernel_rfl
  · omega

theorem readings_step (F : Fr) (f : Nat → Value) {w wr W5 : World} {n k : Nat} {V : Value} (hb : F.Box wr w.heap.size)
    (hcs : ∀ j, j < n → (wr.cell? ⟨w.heap.size + 1, j, none⟩).isSome = true ∧ wr.frozen? ⟨w.heap.size + 1, j, none⟩ = false)
    (hdone : ∀ j, j < k → wr.cell? ⟨w.heap.size + 1, j, none⟩ = some (f j)) (hkp : Keeps w wr) (hsz : w.heap.size + 1 < wr.heap.size) (hlt : k < n) (hV : V = f k)
    (kS : Keeps (wr.setCell ⟨w.heap.size + 1, k, none⟩ V) W5) :
    F.Box W5 w.heap.size ∧ (∀ j, j < n → (W5.cell? ⟨w.heap.size + 1, j, none⟩).isSome = true ∧ W5.frozen? ⟨w.heap.size + 1, j, none⟩ = false) ∧
      (∀ j, j < k + 1 → W5.cell? ⟨w.heap.size + 1, j, none⟩ = some (f j)) ∧ Keeps w W5 ∧ w.heap.size + 1 < W5.heap.size := by
  have hk1 : W5.cell? ⟨w.heap.size + 1, k, none⟩ = some V := kS.cell (cell_set_same (hcs k hlt).1)
  have hoth : ∀ j v, j ≠ k → wr.cell? ⟨w.heap.size + 1, j, none⟩ = some v → W5.cell? ⟨w.heap.size + 1, j, none⟩ = some v := fun j v hj hv => kS.cell ((cell_set_other (by omega)).trans hv)
  have hsz2 : (wr.setCell ⟨w.heap.size + 1, k, none⟩ V).heap.size = wr.heap.size := by simp [World.setCell]
  refine ⟨⟨kS.cell ((cell_set_other (by omega)).trans hb.c0), kS.cell ((cell_set_other (by omega)).trans hb.c1), kS.cell ((cell_set_other (by omega)).trans hb.c2), kS.cell ((cell_set_other (by omega)).trans hb.c3)⟩, fun j hj => ⟨?_, ?_⟩, fun j hj => ?_, (hkp.setCell _ (by simp)).trans kS, by have := kS.size; omega⟩
  · by_cases e : j = k
    · subst e; rw [hk1]; rfl
    · obtain ⟨v, hv⟩ := Option.isSome_iff_exists.1 (hcs j hj).1
      rw [hoth j v e hv]; rfl
  · rw [kS.cells.2 _ _ (by omega), World.frozen?_setCell]; exact (hcs j hj).2
  · by_cases e : j = k
    · subst e; rw [hk1, hV]
    · exact hoth j _ e (hdone j (by omega))

set_option maxHeartbeats 1600000 in
theorem readings_any (F : Fr) (w : World) (hI : F.In w) (hok : F.ok = true) :
    Calls Try.prog 51 #[F.v] w fun e w' => e = .returned (.slice (some ⟨w.heap.size + 1, 0, none⟩) F.rs.length F.rs.length) ∧ Rgs w' (some ⟨w.heap.size + 1, 0, none⟩) F.gs ∧ Keeps w w' ∧ w.heap.size + 1 < w'.heap.size := by
  have hrl := F.rl_in hok
  have hmk := make_readings F.rs.length hrl
  have Hrd := Lib.hid (fun k hk => F.rd_in hok (k := k) hk)
  have Hwv := Lib.hid (fun c hc => F.wave_in hok (c := c) hc)
  have HI := Lib.hid hI
  have HB := Lib.hid (Fr.Box.new F w)
  have hgs : F.gs = F.rs.map (rgOf F.ws) := rfl
  have Hgs := Lib.hid hgs
  obtain ⟨wa, wc, ws, lo, hi, ra, rc, rs⟩ := F
  dsimp only [Fr.v] at *
  clear hok hI hgs
  go_enter Try.func51, Try.ntmps51
  go_wp2
  go_loopw [14] (fun i wr => ∃ k : Nat, k ≤ rs.length ∧ i = .int .i64 k ∧ Fr.Box ⟨wa, wc, ws, lo, hi, ra, rc, rs⟩ wr w.heap.size ∧ (∀ j, j < rs.length → (wr.cell? ⟨w.heap.size + 1, j, none⟩).isSome = true ∧ wr.frozen? ⟨w.heap.size + 1, j, none⟩ = false) ∧ (∀ j, j < k → wr.cell? ⟨w.heap.size + 1, j, none⟩ = some (rgV (rgOf ws (rs[j]?.getD (0, 0, 0))))) ∧ Keeps w wr ∧ w.heap.size + 1 < wr.heap.size) (fun i _ => rs.length - (intOf i).toNat)
  case atStart =>
    refine ⟨0, Nat.zero_le _, rfl, (HB.out).keep ((Keeps.refl _).alloc _), fun j hj => ⟨?_, ?_⟩, fun j hj => absurd hj (by omega), ((Keeps.refl _).alloc _).alloc _, by simp⟩
    · simp [go_sem, hj]
    · simp [go_sem]
  case round =>
    obtain ⟨k, hk, rfl, hb, hcs, hdone, hkp, hsz⟩ := hrel
    obtain ⟨g0, g1, g2, g3⟩ := hb
    dsimp only at g0 g1 g2 g3
    by_cases hlt : k < rs.length
    · obtain ⟨rb, ro, rfl, hr⟩ := (HI.out.rds).keep hkp (by intro e; simp only at e; rw [e] at hlt; simp at hlt)
      obtain ⟨⟨c, x, y⟩, hrk⟩ : ∃ r : Rd, rs[k]?.getD (0, 0, 0) = r := ⟨_, rfl⟩
      have h1 := Hrd.out k hlt
      have h2 := hr k hlt
      dsimp only at h1 h2
      rw [hrk] at h1 h2
      dsimp only at h1 h2
      obtain ⟨hc0, hcw, hp⟩ := h1
      obtain ⟨c, rfl⟩ := Int.eq_ofNat_of_zero_le hc0
      have hcw' : c < ws.length := by omega
      obtain ⟨bw, o, rfl, hw⟩ := (HI.out.ints).keep hkp (by intro e; simp only at e; rw [e] at hcw'; simp at hcw')
      have h3 := hw c hcw'
      dsimp only at h3
      obtain ⟨wv, hwv⟩ : ∃ x, ws[c]?.getD 0 = x := ⟨_, rfl⟩
      rw [hwv] at h3
      obtain ⟨h2a, h2b, h2c⟩ := h2
      obtain ⟨hs1, hf1⟩ := hcs k hlt
      obtain ⟨old, hold⟩ := Option.isSome_iff_exists.1 hs1
      have hlb := lt_of_cell h2a
      have hlw := lt_of_cell h3
      have hlbx := lt_of_cell g0
      have Hcs := Lib.hid hcs
      have Hd := Lib.hid hdone
      have Hrk := Lib.hid hrk
      have Hwv2 := Lib.hid hwv
      clear hr hw hrk hwv hcs hdone hs1
      go_wp2
      go_region
      by_cases hy : y < 20
      · have hV : Value.iface 137 (.agg #[.int .i64 wv, .int .i64 x, .int .i64 y]) = rgV (rgOf ws (rs[k]?.getD (0, 0, 0))) := by
          rw [Hrk.out, rgOf, rgV, if_pos hy]; dsimp only; rw [Int.toNat_natCast, Hwv2.out]
        have HV := Lib.hid hV
        clear hV
        go_wp2
        go_roundw
        case rel => exact ⟨k + 1, by omega, by go_num, readings_step ⟨_, wc, ws, lo, hi, _, rc, rs⟩ (fun j => rgV (rgOf ws (rs[j]?.getD (0, 0, 0)))) ⟨g0, g1, g2, g3⟩ Hcs.out Hd.out hkp hsz hlt HV.out (((Keeps.refl _).alloc _).alloc _).drew⟩
        case measure => simp [intOf]; omega
      · have hV : Value.iface 141 (.agg #[.int .i64 wv, .int .i64 x, .int .i64 y]) = rgV (rgOf ws (rs[k]?.getD (0, 0, 0))) := by
          rw [Hrk.out, rgOf, rgV, if_neg hy]; dsimp only; rw [Int.toNat_natCast, Hwv2.out]
        have HV := Lib.hid hV
        clear hV
        go_wp2
        go_roundw
        case rel => exact ⟨k + 1, by omega, by go_num, readings_step ⟨_, wc, ws, lo, hi, _, rc, rs⟩ (fun j => rgV (rgOf ws (rs[j]?.getD (0, 0, 0)))) ⟨g0, g1, g2, g3⟩ Hcs.out Hd.out hkp hsz hlt HV.out (((Keeps.refl _).alloc _).alloc _).drew⟩
        case measure => simp [intOf]; omega
    · go_wp2
      go_ret
      refine ⟨rfl, fun hne => ⟨w.heap.size + 1, 0, rfl, fun i hi => ?_⟩, hkp, hsz⟩
      have hi' : i < rs.length := by simpa [Fr.gs] using hi
      have h1 := hdone i (by omega)
      rw [Nat.zero_add, h1]
      simp [Fr.gs, List.getElem?_eq_getElem hi']
end Go.Proofs.Ytgbojgachgodgaa
