/-
  waves, common, multiply: the least common multiple of all waves.
-/
import Derived.Test.YtoidnbpbeblokaaWd
namespace Go.Proofs.Ytoidnbpbeblokaa
open Go.RowKit

theorem make_waves (n : Nat) (h : n ≤ 4) (w : World) : (Instr.makeSlice 74 (.int .i64 n) (.int .i64 n)).run Try.prog w = .ok (.slice (some ⟨w.heap.size, 0, none⟩) n n) (w.alloc (.cells (Array.replicate n (.int .i64 0)) 76)) := by
  rcases n with _ | _ | _ | _ | _ | n
  · kernel_rfl
  · kernel_rfl
  · kernel_rfl
  · kernel_rfl
  · kernel_rfl
  · omega
theorem Fr.wl_in (F : Fr) (h : F.ok = true) : 1 ≤ F.ws.length ∧ F.ws.length ≤ 4 := by
  simp only [Fr.ok, vFringe, vWaves, Bool.and_eq_true, decide_eq_true_eq] at h
  exact h.1.1.1

theorem waves_step (F : Fr) (f : Nat → Value) {w wr W5 : World} {n k : Nat} {V : Value} (hb : F.Box wr w.heap.size)
    (hcs : ∀ j, j < n → (wr.cell? ⟨w.heap.size + 1, j, none⟩).isSome = true ∧ wr.frozen? ⟨w.heap.size + 1, j, none⟩ = false)
    (hdone : ∀ j, j < k → wr.cell? ⟨w.heap.size + 1, j, none⟩ = some (f j)) (hkp : Keeps w wr) (hsz : w.heap.size + 1 < wr.heap.size) (hlt : k < n) (hV : V = f k)
    (kS : Keeps (wr.setCell ⟨w.heap.size + 1, k, none⟩ V) W5) :
    F.Box W5 w.heap.size ∧ (∀ j, j < n → (W5.cell? ⟨w.heap.size + 1, j, none⟩).isSome = true ∧ W5.frozen? ⟨w.heap.size + 1, j, none⟩ = false) ∧
      (∀ j, j < k + 1 → W5.cell? ⟨w.heap.size + 1, j, none⟩ = some (f j)) ∧ Keeps w W5 ∧ w.heap.size + 1 < W5.heap.size := by
  have hk1 : W5.cell? ⟨w.heap.size + 1, k, none⟩ = some V := kS.cell (cell_set_same (hcs k hlt).1)
  have hoth : ∀ j v, j ≠ k → wr.cell? ⟨w.heap.size + 1, j, none⟩ = some v → W5.cell? ⟨w.heap.size + 1, j, none⟩ = some v := fun j v hj hv => kS.cell ((cell_set_other (by omega)).trans hv)
  have hsz2 : (wr.setCell ⟨w.heap.size + 1, k, none⟩ V).heap.size = wr.heap.size := by simp [World.setCell]
  refine ⟨⟨kS.cell ((cell_set_other (by omega)).trans hb.c0), kS.cell ((cell_set_other (by omega)).trans hb.c1), kS.cell ((cell_set_other (by omega)).trans hb.c2), kS.cell ((cell_set_other (by omega)).trans hb.c3)⟩, fun j hj => ⟨?_, ?_⟩, fun j hj => ?_, (hkp.setCell _ (by simp)).trans kS, by have := kS.size; omega⟩
  · by_cases e : j = k
    · subst e; rw [hk1]; rfl
    · obtain ⟨v, hv⟩ := Option.isSome_iff_exists.1 (hcs j hj).1
      rw [hoth j v e hv]; rfl
  · rw [kS.cells.2 _ _ (by omega), World.frozen?_setCell]; exact (hcs j hj).2
  · by_cases e : j = k
    · subst e; rw [hk1, hV]
    · exact hoth j _ e (hdone j (by omega))

set_option maxHeartbeats 1600000 in
theorem waves_any (F : Fr) (w : World) (hI : F.In w) (hok : F.ok = true) :
    Calls Try.prog 44 #[F.v] w fun e w' => ∃ a, e = .returned (.slice a F.ws.length F.ws.length) ∧ Ints w' a F.ws ∧ Keeps w w' ∧ (∀ b o, a = some ⟨b, o, none⟩ → w.heap.size ≤ b) := by
  obtain ⟨hw1, hw4⟩ := F.wl_in hok
  have hmk := make_waves F.ws.length hw4
  have HI := Lib.hid hI
  have HB := Lib.hid (Fr.Box.new F w)
  obtain ⟨wa, wc, ws, lo, hi, ra, rc, rs⟩ := F
  dsimp only [Fr.v] at *
  clear hok hI
  go_enter Try.func44, Try.ntmps44
  go_wp2
  go_loopw [13] (fun i wr => ∃ k : Nat, k ≤ ws.length ∧ i = .int .i64 k ∧ Fr.Box ⟨wa, wc, ws, lo, hi, ra, rc, rs⟩ wr w.heap.size ∧ (∀ j, j < ws.length → (wr.cell? ⟨w.heap.size + 1, j, none⟩).isSome = true ∧ wr.frozen? ⟨w.heap.size + 1, j, none⟩ = false) ∧ (∀ j, j < k → wr.cell? ⟨w.heap.size + 1, j, none⟩ = some (.int .i64 (ws[j]?.getD 0))) ∧ Keeps w wr ∧ w.heap.size + 1 < wr.heap.size) (fun i _ => ws.length - (intOf i).toNat)
  case atStart =>
    refine ⟨0, Nat.zero_le _, rfl, (HB.out).keep ((Keeps.refl _).alloc _), fun j hj => ⟨?_, ?_⟩, fun j hj => absurd hj (by omega), ((Keeps.refl _).alloc _).alloc _, by simp⟩
    · simp [go_sem, hj]
    · simp [go_sem]
  case round =>
    obtain ⟨k, hk, rfl, hb, hcs, hdone, hkp, hsz⟩ := hrel
    obtain ⟨g0, g1, g2, g3⟩ := hb
    dsimp only at g0 g1 g2 g3
    by_cases hlt : k < ws.length
    · obtain ⟨bw, o, rfl, hw⟩ := (HI.out.ints).keep hkp (by intro e; simp only at e; rw [e] at hlt; simp at hlt)
      have h3 := hw k hlt
      dsimp only at h3
      obtain ⟨wv, hwv⟩ : ∃ x, ws[k]?.getD 0 = x := ⟨_, rfl⟩
      rw [hwv] at h3
      obtain ⟨hs1, hf1⟩ := hcs k hlt
      obtain ⟨old, hold⟩ := Option.isSome_iff_exists.1 hs1
      have hlw := lt_of_cell h3
      have hlbx := lt_of_cell g0
      have Hcs := Lib.hid hcs
      have Hd := Lib.hid hdone
      have Hwv2 := Lib.hid hwv
      clear hw hwv hcs hdone hs1
      go_wp2
      go_roundw
      case rel => exact ⟨k + 1, by omega, by go_num, waves_step ⟨_, wc, ws, lo, hi, ra, rc, rs⟩ (fun j => .int .i64 (ws[j]?.getD 0)) ⟨g0, g1, g2, g3⟩ Hcs.out Hd.out hkp hsz hlt (by rw [Hwv2.out]) (Keeps.refl _)⟩
      case measure => simp [intOf]; omega
    · go_wp2
      go_ret
      exact ⟨_, rfl, fun hne => ⟨w.heap.size + 1, 0, rfl, fun i hi => by rw [Nat.zero_add]; exact hdone i (by omega)⟩, hkp, fun b o e => by cases e; omega⟩

set_option maxHeartbeats 800000 in
theorem common_any (a b : Nat) (w : World) (h1 : 1 ≤ a) (h2 : a ≤ 216000) (h3 : 1 ≤ b) (h4 : b ≤ 60) :
    Calls Try.prog 85 #[.int .i64 a, .int .i64 b] w (RetI (Nat.lcm a b) w) := by
  have hg0 : 0 < Nat.gcd a b := Nat.gcd_pos_of_pos_left b (by omega)
  have hga : Nat.gcd a b ≤ a := Nat.gcd_le_left b (by omega)
  have hlcm : a / Nat.gcd a b * b = Nat.lcm a b := by
    rw [Nat.lcm, Nat.mul_comm a b, Nat.mul_div_assoc _ (Nat.gcd_dvd_left a b), Nat.mul_comm]
  have Hl := Lib.hid hlcm
  clear hlcm
  go_enter Try.func85, Try.ntmps85
  go_wp2
  go_loopw [5, 6] (fun d r wr => ∃ x y : Nat, d = .int .i64 x ∧ r = .int .i64 y ∧ Nat.gcd x y = Nat.gcd a b ∧ x ≤ 216000 ∧ y ≤ 216000 ∧ Keeps w wr) (fun _ r _ => (intOf r).toNat)
  case atStart => exact ⟨a, b, rfl, rfl, rfl, by omega, by omega, Keeps.refl _⟩
  case round =>
    obtain ⟨x, y, rfl, rfl, hg, hx, hy, hkp⟩ := hrel
    have Hg := Lib.hid hg
    clear hg
    by_cases hz : y = 0
    · subst hz
      obtain rfl : x = Nat.gcd a b := by have := Hg.out; simpa using this
      have hq0 : 0 ≤ (a : Int) / (Nat.gcd a b : Int) ∧ (a : Int) / (Nat.gcd a b : Int) ≤ 216000 := by
        rw [← Int.natCast_ediv]
        have hq := Nat.div_le_self a (Nat.gcd a b)
        generalize a / Nat.gcd a b = q at hq ⊢
        omega
      have hp0 : 0 ≤ (a : Int) / (Nat.gcd a b : Int) * (b : Int) ∧ (a : Int) / (Nat.gcd a b : Int) * (b : Int) ≤ 216000 * 60 :=
        ⟨Int.mul_nonneg hq0.1 (by omega), Int.mul_le_mul hq0.2 (by omega) (by omega) (by omega)⟩
      obtain ⟨hq0, hq1⟩ := hq0
      obtain ⟨hp0, hp1⟩ := hp0
      go_wp2
      go_ret
      exact RetI.mk (by rw [← Hl.out, Int.natCast_mul, Int.natCast_ediv]) hkp
    · have hb1 : ((y : Int) != 0) = true := by rw [bne_iff_ne]; omega
      have hm : (x : Int) % (y : Int) = ((x % y : Nat) : Int) := by omega
      have hmb : x % y < y := Nat.mod_lt _ (by omega)
      go_wp2
      go_quiet (fail)
      go_wp2
      go_roundw
      case rel => exact ⟨y, x % y, rfl, by rw [hm], by rw [← Hg.out, Nat.gcd_comm y, ← Nat.gcd_rec, Nat.gcd_comm], by omega, by omega, hkp.drewN _⟩
      case measure => simp [intOf]; omega

def perTo (ws : List Int) (k : Nat) : Nat := (ws.take k).foldl (fun a x => Nat.lcm a x.toNat) 1
def period (ws : List Int) : Nat := ws.foldl (fun a x => Nat.lcm a x.toNat) 1
theorem perTo_succ {ws : List Int} {k : Nat} (h : k < ws.length) : perTo ws (k + 1) = Nat.lcm (perTo ws k) (ws[k]?.getD 0).toNat := by
  rw [perTo, List.take_succ_eq_append_getElem h, List.foldl_append, List.getElem?_eq_getElem h]
  rfl
theorem perTo_bd {ws : List Int} (hw : ∀ i, i < ws.length → 2 ≤ ws[i]?.getD 0 ∧ ws[i]?.getD 0 ≤ 60) : ∀ k, k ≤ ws.length → 1 ≤ perTo ws k ∧ perTo ws k ≤ 60 ^ k := by
  intro k
  induction k with
  | zero => intro _; simp [perTo]
  | succ k ih =>
    intro hk
    obtain ⟨h1, h2⟩ := ih (by omega)
    obtain ⟨h3, h4⟩ := hw k (by omega)
    rw [perTo_succ (by omega)]
    refine ⟨Nat.lcm_pos (by omega) (by omega), ?_⟩
    have := Nat.div_le_self (perTo ws k * (ws[k]?.getD 0).toNat) (Nat.gcd (perTo ws k) (ws[k]?.getD 0).toNat)
    have h5 : perTo ws k * (ws[k]?.getD 0).toNat ≤ 60 ^ k * 60 := Nat.mul_le_mul h2 (by omega)
    rw [Nat.pow_succ, Nat.lcm]
    omega

set_option maxHeartbeats 800000 in
theorem multiply_any (a : Option Addr) (ws : List Int) (w : World) (hI : Ints w a ws) (hl : ws.length ≤ 4) (hw : ∀ i, i < ws.length → 2 ≤ ws[i]?.getD 0 ∧ ws[i]?.getD 0 ≤ 60) :
    Calls Try.prog 84 #[.func (.func 85) #[] #[], .slice a ws.length ws.length] w (RetI (period ws) w) := by
  have hbd := perTo_bd hw
  have hend : perTo ws ws.length = period ws := by simp [perTo, period]
  have Hend := Lib.hid hend
  have Hbd := Lib.hid hbd
  have Hw := Lib.hid hw
  have HI := Lib.hid hI
  clear hend hbd hw hI
  go_enter Try.func84, Try.ntmps84
  go_wp2
  go_loopw [5, 10] (fun p i wr => ∃ k : Nat, k ≤ ws.length ∧ i = .int .i64 k ∧ p = .int .i64 (perTo ws k) ∧ Keeps w wr) (fun _ i _ => ws.length - (intOf i).toNat)
  case atStart => exact ⟨0, Nat.zero_le _, rfl, rfl, Keeps.refl _⟩
  case round =>
    obtain ⟨k, hk, rfl, rfl, hkp⟩ := hrel
    by_cases hlt : k < ws.length
    · obtain ⟨b, o, rfl, hc⟩ := HI.out.keep hkp (by intro e; rw [e] at hlt; simp at hlt)
      have hcell := hc k hlt
      obtain ⟨h3, h4⟩ := Hw.out k hlt
      obtain ⟨x, hx⟩ : ∃ x, ws[k]?.getD 0 = x := ⟨_, rfl⟩
      rw [hx] at hcell h3 h4
      obtain ⟨y, rfl⟩ := Int.eq_ofNat_of_zero_le (a := x) (by omega)
      obtain ⟨h1, h2⟩ := Hbd.out k (by omega)
      have h5 : (60 : Nat) ^ k ≤ 60 ^ 3 := Nat.pow_le_pow_right (by omega) (by omega)
      have hs := perTo_succ hlt
      rw [hx, Int.toNat_natCast] at hs
      obtain ⟨p, hp⟩ : ∃ p, perTo ws k = p := ⟨_, rfl⟩
      rw [hp] at h1 h2 hs ⊢
      have Hs := Lib.hid hs
      have HC := Lib.hid (fun w1 => common_any p y w1 h1 (by omega) (by omega) (by omega))
      clear hc hx hp hs h2 h5
      go_wp2_with (go_at_call 85; refine (HC.out _).mono ?_; rintro e w' ⟨rfl, k1⟩)
      go_roundw
      case rel => exact ⟨k + 1, by omega, by go_num, by rw [Hs.out], hkp.trans k1⟩
      case measure => simp [intOf]; omega
    · obtain rfl : k = ws.length := by omega
      go_wp2
      go_ret
      exact RetI.mk (by rw [Hend.out]) hkp
end Go.Proofs.Ytoidnbpbeblokaa
