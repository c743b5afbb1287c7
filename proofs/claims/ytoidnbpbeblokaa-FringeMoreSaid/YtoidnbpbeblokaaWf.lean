/-
  A reading is right of a length; all readings are.
  readings: each reading with its wave.
  agreeing, truths: they hand back the iterator, which has kept its span and its readings.
-/
import Derived.Test.YtoidnbpbeblokaaWd
import Derived.BigRegion
namespace Go.Proofs.Ytoidnbpbeblokaa
open Go.RowKit

/-- A reading whose colour is its wave: the wave, from which part to which one. -/
abbrev Rg := Int × Int × Int
def rgV (g : Rg) : Value := if g.2.2 < 20 then .iface 137 (.agg #[.int .i64 g.1, .int .i64 g.2.1, .int .i64 g.2.2]) else .iface 141 (.agg #[.int .i64 g.1, .int .i64 g.2.1, .int .i64 g.2.2])
def partI (wv n : Int) : Int := 20 * (n % wv) / wv
def plainB (wv lo hi n : Int) : Bool := decide (lo ≤ partI wv n ∧ partI wv n ≤ hi)
def roundB (wv lo hi n : Int) : Bool := decide (lo ≤ partI wv n ∨ partI wv n + 20 ≤ hi)
def rightB (g : Rg) (n : Int) : Bool := if g.2.2 < 20 then plainB g.1 g.2.1 g.2.2 n else roundB g.1 g.2.1 g.2.2 n

theorem partI_bd {wv n : Int} (h1 : 1 ≤ wv) : 0 ≤ partI wv n ∧ partI wv n ≤ 19 := by
  unfold partI
  have hm0 : 0 ≤ n % wv := Int.emod_nonneg _ (by omega)
  have hm1 : n % wv < wv := Int.emod_lt_of_pos _ (by omega)
  refine ⟨Int.ediv_nonneg (by omega) (by omega), ?_⟩
  have : 20 * (n % wv) / wv < 20 := Int.ediv_lt_of_lt_mul (by omega) (by omega)
  omega

theorem run_part (x y : Int) (w : World) : (Instr.field 110 (.agg #[.int .i64 x, .int .i64 y]) 1).run Try.prog w = .ok (.int .i64 y) w := by kernel_rfl
theorem run_whole (x y : Int) (w : World) : (Instr.field 110 (.agg #[.int .i64 x, .int .i64 y]) 0).run Try.prog w = .ok (.int .i64 x) w := by kernel_rfl

set_option maxHeartbeats 400000 in
theorem plain_right (wv lo hi n : Int) (w : World) (h1 : 1 ≤ wv) (h2 : wv ≤ 60) (h3 : 0 ≤ n) (h4 : n ≤ 2000) :
    Calls Try.prog 129 #[.agg #[.int .i64 wv, .int .i64 lo, .int .i64 hi], .int .i64 n] w (RetB (plainB wv lo hi n) w) := by
  have H := Lib.hid (fun w1 => split_any wv n w1 h1 h2 h3 h4)
  obtain ⟨p, hp⟩ : ∃ p, 20 * (n % wv) / wv = p := ⟨_, rfl⟩
  have hb := partI_bd (n := n) h1
  have Hp := Lib.hid (show partI wv n = p from hp)
  rw [Hp.out] at hb
  rw [hp] at H
  obtain ⟨hb1, hb2⟩ := hb
  clear hp
  have hf := run_part
  go_enter Try.func129, Try.ntmps129
  go_wp2_with fail
  refine (H.out _).mono ?_
  rintro e w1 ⟨rfl, k1⟩
  have hc1 := k1.cells
  go_wp2_with fail
  all_goals go_ret
  all_goals exact RetB.mk (by rw [plainB, Hp.out, Bool.eq_iff_iff]; simp; omega) (((Keeps.refl _).alloc _).trans k1)
set_option maxHeartbeats 400000 in
theorem round_right (wv lo hi n : Int) (w : World) (h1 : 1 ≤ wv) (h2 : wv ≤ 60) (h3 : 0 ≤ n) (h4 : n ≤ 2000) :
    Calls Try.prog 130 #[.agg #[.int .i64 wv, .int .i64 lo, .int .i64 hi], .int .i64 n] w (RetB (roundB wv lo hi n) w) := by
  have H := Lib.hid (fun w1 => split_any wv n w1 h1 h2 h3 h4)
  obtain ⟨p, hp⟩ : ∃ p, 20 * (n % wv) / wv = p := ⟨_, rfl⟩
  have hb := partI_bd (n := n) h1
  have Hp := Lib.hid (show partI wv n = p from hp)
  rw [Hp.out] at hb
  rw [hp] at H
  obtain ⟨hb1, hb2⟩ := hb
  clear hp
  have hf := run_part
  go_enter Try.func130, Try.ntmps130
  go_wp2_with fail
  refine (H.out _).mono ?_
  rintro e w1 ⟨rfl, k1⟩
  have hc1 := k1.cells
  go_wp2_with fail
  all_goals go_ret
  all_goals exact RetB.mk (by rw [roundB, Hp.out, Bool.eq_iff_iff]; simp; omega) (((Keeps.refl _).alloc _).trans k1)

/-- The slice at a holds these readings, an interface value each. -/
def Rgs (w : World) (a : Option Addr) (gs : List Rg) : Prop :=
  gs ≠ [] → ∃ b o, a = some ⟨b, o, none⟩ ∧ ∀ i, i < gs.length → w.cell? ⟨b, o + i, none⟩ = some (rgV (gs[i]?.getD (0, 0, 0)))
theorem Rgs.keep {w w' : World} {a : Option Addr} {xs : List Rg} (h : Rgs w a xs) (k : Keeps w w') : Rgs w' a xs := by
  intro hx
  obtain ⟨b, o, e, hc⟩ := h hx
  exact ⟨b, o, e, fun i hi => k.cell (hc i hi)⟩
theorem meth_plain (v : Value) (w : World) : (method 269 137 v "blockworks/fringe.right").run Try.prog w = .ok (129, v) w := by kernel_rfl
theorem meth_round (v : Value) (w : World) : (method 269 141 v "blockworks/fringe.right").run Try.prog w = .ok (130, v) w := by kernel_rfl
def okG (g : Rg) : Prop := 1 ≤ g.1 ∧ g.1 ≤ 60
theorem all_bad {gs : List Rg} {n : Int} {k : Nat} (h : k < gs.length) (hr : rightB (gs[k]?.getD (0, 0, 0)) n = false) : gs.all (rightB · n) = false := by
  rw [List.all_eq_false]
  refine ⟨gs[k], List.getElem_mem h, ?_⟩
  rw [List.getElem?_eq_getElem h, Option.getD_some] at hr
  simp [hr]
set_option maxHeartbeats 800000 in
theorem allRight_any (a : Option Addr) (cap : Nat) (gs : List Rg) (n : Int) (w : World) (hg : Rgs w a gs) (hl : gs.length ≤ maxLen) (hok : ∀ g ∈ gs, okG g) (h3 : 0 ≤ n) (h4 : n ≤ 2000) :
    Calls Try.prog 111 #[.slice a gs.length cap, .int .i64 n] w (RetB (gs.all (rightB · n)) w) := by
  unfold maxLen at hl
  go_enter Try.func111, Try.ntmps111
  go_wp2
  go_loopw [9] (fun i wr => ∃ k : Nat, k ≤ gs.length ∧ i = .int .i64 k ∧ (∀ j, j < k → rightB (gs[j]?.getD (0, 0, 0)) n = true) ∧ Keeps w wr) (fun i _ => gs.length - (intOf i).toNat)
  case atStart => exact ⟨0, Nat.zero_le _, rfl, fun j hj => absurd hj (by omega), Keeps.refl _⟩
  case round =>
    obtain ⟨k, hk, rfl, hall, hkp⟩ := hrel
    have Hall := Lib.hid hall
    clear hall
    by_cases hlt : k < gs.length
    · obtain ⟨b, o, rfl, hc⟩ := hg.keep hkp (by intro e; subst e; simp at hlt)
      obtain ⟨⟨wv, lo, hi⟩, hr⟩ : ∃ r : Rg, gs[k]?.getD (0, 0, 0) = r := ⟨_, rfl⟩
      have h1 := hc k hlt
      rw [hr] at h1
      obtain ⟨o1, o2⟩ : okG (wv, lo, hi) := hr ▸ (by rw [List.getElem?_eq_getElem hlt]; exact hok _ (List.getElem_mem hlt))
      dsimp only at o1 o2
      by_cases hp : hi < 20
      · rw [rgV, if_pos hp] at h1
        dsimp only at h1
        obtain ⟨v, hv⟩ : ∃ v, plainB wv lo hi n = v := ⟨_, rfl⟩
        have hvr : rightB (wv, lo, hi) n = v := by rw [rightB, if_pos hp]; exact hv
        have HC := Lib.hid (fun w1 => hv ▸ plain_right wv lo hi n w1 o1 o2 h3 h4)
        have Hr := Lib.hid (hr ▸ hvr)
        clear hc hr hg hv hvr hok
        have hcm := meth_plain
        cases v
        · go_wp2_with (go_at_call 129; refine (HC.out _).mono ?_; rintro e w1 ⟨rfl, k1⟩)
          go_ret
          exact RetB.mk (all_bad hlt Hr.out).symm (hkp.trans k1)
        · go_wp2_with (go_at_call 129; refine (HC.out _).mono ?_; rintro e w1 ⟨rfl, k1⟩)
          go_roundw
          case rel => exact ⟨k + 1, by omega, by go_num, fun j hj => by
            by_cases e : j = k
            · subst e; exact Hr.out
            · exact Hall.out j (by omega), hkp.trans k1⟩
          case measure => simp [intOf]; omega
      · rw [rgV, if_neg hp] at h1
        dsimp only at h1
        obtain ⟨v, hv⟩ : ∃ v, roundB wv lo hi n = v := ⟨_, rfl⟩
        have hvr : rightB (wv, lo, hi) n = v := by rw [rightB, if_neg hp]; exact hv
        have HC := Lib.hid (fun w1 => hv ▸ round_right wv lo hi n w1 o1 o2 h3 h4)
        have Hr := Lib.hid (hr ▸ hvr)
        clear hc hr hg hv hvr hok
        have hcm := meth_round
        cases v
        · go_wp2_with (go_at_call 130; refine (HC.out _).mono ?_; rintro e w1 ⟨rfl, k1⟩)
          go_ret
          exact RetB.mk (all_bad hlt Hr.out).symm (hkp.trans k1)
        · go_wp2_with (go_at_call 130; refine (HC.out _).mono ?_; rintro e w1 ⟨rfl, k1⟩)
          go_roundw
          case rel => exact ⟨k + 1, by omega, by go_num, fun j hj => by
            by_cases e : j = k
            · subst e; exact Hr.out
            · exact Hall.out j (by omega), hkp.trans k1⟩
          case measure => simp [intOf]; omega
    · go_wp2
      go_ret
      exact RetB.mk (by
        rw [eq_comm, List.all_eq_true]
        intro g hg
        obtain ⟨i, hi, rfl⟩ := List.getElem_of_mem hg
        have := Hall.out i (by omega)
        simpa [List.getElem?_eq_getElem hi] using this) hkp
end Go.Proofs.Ytoidnbpbeblokaa

namespace Go.Proofs.Ytoidnbpbeblokaa
open Go.RowKit

def rgOf (ws : List Int) (r : Rd) : Rg := (ws[r.1.toNat]?.getD 0, r.2.1, r.2.2)
def Fr.gs (F : Fr) : List Rg := F.rs.map (rgOf F.ws)
theorem Fr.rd_in (F : Fr) (h : F.ok = true) {k : Nat} (hk : k < F.rs.length) : 0 ≤ (F.rs[k]?.getD (0, 0, 0)).1 ∧ (F.rs[k]?.getD (0, 0, 0)).1 < F.ws.length ∧ vPart (F.rs[k]?.getD (0, 0, 0)).2.1 (F.rs[k]?.getD (0, 0, 0)).2.2 = true := by
  simp only [Fr.ok, vFringe, vReads, Bool.and_eq_true, List.all_eq_true, vRead, decide_eq_true_eq] at h
  have := h.2.2 F.rs[k] (List.getElem_mem hk)
  simp only [List.getElem?_eq_getElem hk, Option.getD_some]
  exact ⟨this.1.1, this.1.2, this.2⟩
theorem Fr.rl_in (F : Fr) (h : F.ok = true) : F.rs.length ≤ 6 := by
  simp only [Fr.ok, vFringe, vReads, Bool.and_eq_true, decide_eq_true_eq] at h
  exact h.2.1

theorem make_readings (n : Nat) (h : n ≤ 6) (w : World) : (Instr.makeSlice 87 (.int .i64 n) (.int .i64 n)).run Try.prog w = .ok (.slice (some ⟨w.heap.size, 0, none⟩) n n) (w.alloc (.cells (Array.replicate n .nilIface) 139)) := by
  rcases n with _ | _ | _ | _ | _ | _ | _ | n
  · kernel_rfl
  · kernel_rfl
  · kernel_rfl
  · kernel_rfl
  · kernel_rfl
  · kernel_rfl
  · kernel_rfl
  · omega

theorem readings_step (F : Fr) (f : Nat → Value) {w wr W5 : World} {n k : Nat} {V : Value} (hb : F.Box wr w.heap.size)
    (hcs : ∀ j, j < n → (wr.cell? ⟨w.heap.size + 1, j, none⟩).isSome = true ∧ wr.frozen? ⟨w.heap.size + 1, j, none⟩ = false)
    (hdone : ∀ j, j < k → wr.cell? ⟨w.heap.size + 1, j, none⟩ = some (f j)) (hkp : Keeps w wr) (hsz : w.heap.size + 1 < wr.heap.size) (hlt : k < n) (hV : V = f k)
    (kS : Keeps (wr.setCell ⟨w.heap.size + 1, k, none⟩ V) W5) :
    F.Box W5 w.heap.size ∧ (∀ j, j < n → (W5.cell? ⟨w.heap.size + 1, j, none⟩).isSome = true ∧ W5.frozen? ⟨w.heap.size + 1, j, none⟩ = false) ∧
      (∀ j, j < k + 1 → W5.cell? ⟨w.heap.size + 1, j, none⟩ = some (f j)) ∧ Keeps w W5 ∧ w.heap.size + 1 < W5.heap.size := by
  have hk1 : W5.cell? ⟨w.heap.size + 1, k, none⟩ = some V := kS.cell (cell_set_same (hcs k hlt).1)
  have hoth : ∀ j v, j ≠ k → wr.cell? ⟨w.heap.size + 1, j, none⟩ = some v → W5.cell? ⟨w.heap.size + 1, j, none⟩ = some v := fun j v hj hv => kS.cell ((cell_set_other (by omega)).trans hv)
  have hsz2 : (wr.setCell ⟨w.heap.size + 1, k, none⟩ V).heap.size = wr.heap.size := by simp [World.setCell]
  refine ⟨⟨kS.cell ((cell_set_other (by omega)).trans hb.c0), kS.cell ((cell_set_other (by omega)).trans hb.c1), kS.cell ((cell_set_other (by omega)).trans hb.c2), kS.cell ((cell_set_other (by omega)).trans hb.c3)⟩, fun j hj => ⟨?_, ?_⟩, fun j hj => ?_, (hkp.setCell _ (by simp)).trans kS, by have := kS.size; omega⟩
  · by_cases e : j = k
    · subst e; rw [hk1]; rfl
    · obtain ⟨v, hv⟩ := Option.isSome_iff_exists.1 (hcs j hj).1
      rw [hoth j v e hv]; rfl
  · rw [kS.cells.2 _ _ (by omega), World.frozen?_setCell]; exact (hcs j hj).2
  · by_cases e : j = k
    · subst e; rw [hk1, hV]
    · exact hoth j _ e (hdone j (by omega))

set_option maxHeartbeats 1600000 in
theorem readings_any (F : Fr) (w : World) (hI : F.In w) (hok : F.ok = true) :
    Calls Try.prog 51 #[F.v] w fun e w' => e = .returned (.slice (some ⟨w.heap.size + 1, 0, none⟩) F.rs.length F.rs.length) ∧ Rgs w' (some ⟨w.heap.size + 1, 0, none⟩) F.gs ∧ Keeps w w' ∧ w.heap.size + 1 < w'.heap.size := by
  have hrl := F.rl_in hok
  have hmk := make_readings F.rs.length hrl
  have Hrd := Lib.hid (fun k hk => F.rd_in hok (k := k) hk)
  have Hwv := Lib.hid (fun c hc => F.wave_in hok (c := c) hc)
  have HI := Lib.hid hI
  have HB := Lib.hid (Fr.Box.new F w)
  have hgs : F.gs = F.rs.map (rgOf F.ws) := rfl
  have Hgs := Lib.hid hgs
  obtain ⟨wa, wc, ws, lo, hi, ra, rc, rs⟩ := F
  dsimp only [Fr.v] at *
  clear hok hI hgs
  go_enter Try.func51, Try.ntmps51
  go_wp2
  go_loopw [14] (fun i wr => ∃ k : Nat, k ≤ rs.length ∧ i = .int .i64 k ∧ Fr.Box ⟨wa, wc, ws, lo, hi, ra, rc, rs⟩ wr w.heap.size ∧ (∀ j, j < rs.length → (wr.cell? ⟨w.heap.size + 1, j, none⟩).isSome = true ∧ wr.frozen? ⟨w.heap.size + 1, j, none⟩ = false) ∧ (∀ j, j < k → wr.cell? ⟨w.heap.size + 1, j, none⟩ = some (rgV (rgOf ws (rs[j]?.getD (0, 0, 0))))) ∧ Keeps w wr ∧ w.heap.size + 1 < wr.heap.size) (fun i _ => rs.length - (intOf i).toNat)
  case atStart =>
    refine ⟨0, Nat.zero_le _, rfl, (HB.out).keep ((Keeps.refl _).alloc _), fun j hj => ⟨?_, ?_⟩, fun j hj => absurd hj (by omega), ((Keeps.refl _).alloc _).alloc _, by simp⟩
    · simp [go_sem, hj]
    · simp [go_sem]
  case round =>
    obtain ⟨k, hk, rfl, hb, hcs, hdone, hkp, hsz⟩ := hrel
    obtain ⟨g0, g1, g2, g3⟩ := hb
    dsimp only at g0 g1 g2 g3
    by_cases hlt : k < rs.length
    · obtain ⟨rb, ro, rfl, hr⟩ := (HI.out.rds).keep hkp (by intro e; simp only at e; rw [e] at hlt; simp at hlt)
      obtain ⟨⟨c, x, y⟩, hrk⟩ : ∃ r : Rd, rs[k]?.getD (0, 0, 0) = r := ⟨_, rfl⟩
      have h1 := Hrd.out k hlt
      have h2 := hr k hlt
      dsimp only at h1 h2
      rw [hrk] at h1 h2
      dsimp only at h1 h2
      obtain ⟨hc0, hcw, hp⟩ := h1
      obtain ⟨c, rfl⟩ := Int.eq_ofNat_of_zero_le hc0
      have hcw' : c < ws.length := by omega
      obtain ⟨bw, o, rfl, hw⟩ := (HI.out.ints).keep hkp (by intro e; simp only at e; rw [e] at hcw'; simp at hcw')
      have h3 := hw c hcw'
      dsimp only at h3
      obtain ⟨wv, hwv⟩ : ∃ x, ws[c]?.getD 0 = x := ⟨_, rfl⟩
      rw [hwv] at h3
      obtain ⟨h2a, h2b, h2c⟩ := h2
      obtain ⟨hs1, hf1⟩ := hcs k hlt
      obtain ⟨old, hold⟩ := Option.isSome_iff_exists.1 hs1
      have hlb := lt_of_cell h2a
      have hlw := lt_of_cell h3
      have hlbx := lt_of_cell g0
      have Hcs := Lib.hid hcs
      have Hd := Lib.hid hdone
      have Hrk := Lib.hid hrk
      have Hwv2 := Lib.hid hwv
      clear hr hw hrk hwv hcs hdone hs1
      go_wp2
      go_region
      by_cases hy : y < 20
      · have hV : Value.iface 137 (.agg #[.int .i64 wv, .int .i64 x, .int .i64 y]) = rgV (rgOf ws (rs[k]?.getD (0, 0, 0))) := by
          rw [Hrk.out, rgOf, rgV, if_pos hy]; dsimp only; rw [Int.toNat_natCast, Hwv2.out]
        have HV := Lib.hid hV
        clear hV
        go_wp2
        go_roundw
        case rel => exact ⟨k + 1, by omega, by go_num, readings_step ⟨_, wc, ws, lo, hi, _, rc, rs⟩ (fun j => rgV (rgOf ws (rs[j]?.getD (0, 0, 0)))) ⟨g0, g1, g2, g3⟩ Hcs.out Hd.out hkp hsz hlt HV.out (((Keeps.refl _).alloc _).alloc _).drew⟩
        case measure => simp [intOf]; omega
      · have hV : Value.iface 141 (.agg #[.int .i64 wv, .int .i64 x, .int .i64 y]) = rgV (rgOf ws (rs[k]?.getD (0, 0, 0))) := by
          rw [Hrk.out, rgOf, rgV, if_neg hy]; dsimp only; rw [Int.toNat_natCast, Hwv2.out]
        have HV := Lib.hid hV
        clear hV
        go_wp2
        go_roundw
        case rel => exact ⟨k + 1, by omega, by go_num, readings_step ⟨_, wc, ws, lo, hi, _, rc, rs⟩ (fun j => rgV (rgOf ws (rs[j]?.getD (0, 0, 0)))) ⟨g0, g1, g2, g3⟩ Hcs.out Hd.out hkp hsz hlt HV.out (((Keeps.refl _).alloc _).alloc _).drew⟩
        case measure => simp [intOf]; omega
    · go_wp2
      go_ret
      refine ⟨rfl, fun hne => ⟨w.heap.size + 1, 0, rfl, fun i hi => ?_⟩, hkp, hsz⟩
      have hi' : i < rs.length := by simpa [Fr.gs] using hi
      have h1 := hdone i (by omega)
      rw [Nat.zero_add, h1]
      simp [Fr.gs, List.getElem?_eq_getElem hi']
end Go.Proofs.Ytoidnbpbeblokaa

namespace Go.Proofs.Ytoidnbpbeblokaa
open Go.RowKit

set_option maxHeartbeats 400000 in
theorem agreeing_any (lo hi : Int) (a : Option Addr) (n cap : Nat) (w : World) :
    Calls Try.prog 93 #[.agg #[.int .i64 lo, .int .i64 hi], .slice a n cap] w fun e w' =>
      e = .returned (.func (.func 110) #[] #[.pointer (some ⟨w.heap.size, 0, none⟩), .pointer (some ⟨w.heap.size + 1, 0, none⟩)]) ∧ (w.alloc (.cells #[.int .i64 lo, .int .i64 hi] 24)).alloc (.cells #[.slice a n cap] 87) = w' := by
  have hmf : ∀ (fn : Fn) (first cap : Array Value) (w : World), (Instr.makeFunc fn first cap).run Try.prog w = .ok (.func fn first cap) w := fun _ _ _ _ => rfl
  go_enter Try.func93, Try.ntmps93
  go_wp2
  go_ret
  exact ⟨rfl, rfl⟩

/-- The iterator over the lengths of a span of which all readings are right; what it has kept lies from block m on. -/
def SeqAt (m : Nat) (w : World) (v : Value) (lo hi : Int) (a : Option Addr) (gs : List Rg) : Prop :=
  ∃ b1 b2 cap, v = .func (.func 110) #[] #[.pointer (some ⟨b1, 0, none⟩), .pointer (some ⟨b2, 0, none⟩)] ∧ m ≤ b1 ∧ m ≤ b2 ∧ w.cell? ⟨b1, 0, none⟩ = some (.int .i64 lo) ∧ w.cell? ⟨b1, 1, none⟩ = some (.int .i64 hi) ∧
    w.cell? ⟨b2, 0, none⟩ = some (.slice a gs.length cap) ∧ Rgs w a gs
theorem SeqAt.keep {m : Nat} {w w' : World} {v : Value} {lo hi : Int} {a : Option Addr} {gs : List Rg} (h : SeqAt m w v lo hi a gs) (k : Keeps w w') : SeqAt m w' v lo hi a gs := by
  obtain ⟨b1, b2, cap, hv, hm1, hm2, h1, h2, h3, h4⟩ := h
  exact ⟨b1, b2, cap, hv, hm1, hm2, k.cell h1, k.cell h2, k.cell h3, h4.keep k⟩
theorem SeqAt.mono {m m' : Nat} {w : World} {v : Value} {lo hi : Int} {a : Option Addr} {gs : List Rg} (h : SeqAt m w v lo hi a gs) (k : m' ≤ m) : SeqAt m' w v lo hi a gs := by
  obtain ⟨b1, b2, cap, hv, hm1, hm2, h⟩ := h
  exact ⟨b1, b2, cap, hv, Nat.le_trans k hm1, Nat.le_trans k hm2, h⟩
/-- The slice at a, if there is one, lies from block m on. -/
def From (m : Nat) (a : Option Addr) : Prop := ∀ b o, a = some ⟨b, o, none⟩ → m ≤ b

theorem agreeing_seq (lo hi : Int) (a : Option Addr) (cap : Nat) (gs : List Rg) (w : World) (hg : Rgs w a gs) :
    Calls Try.prog 93 #[.agg #[.int .i64 lo, .int .i64 hi], .slice a gs.length cap] w fun e w' => ∃ v, e = .returned v ∧ SeqAt w.heap.size w' v lo hi a gs ∧ Keeps w w' := by
  refine (agreeing_any lo hi a gs.length cap w).mono ?_
  rintro e w' ⟨rfl, rfl⟩
  have k1 : Keeps w ((w.alloc (.cells #[.int .i64 lo, .int .i64 hi] 24)).alloc (.cells #[.slice a gs.length cap] 87)) := ((Keeps.refl _).alloc _).alloc _
  exact ⟨_, rfl, ⟨w.heap.size, w.heap.size + 1, cap, rfl, Nat.le_refl _, Nat.le_succ _, by simp [go_sem], by simp [go_sem], by simp [go_sem], hg.keep k1⟩, k1⟩

theorem Fr.gs_len (F : Fr) : F.gs.length = F.rs.length := by simp [Fr.gs]

theorem readings_ex (F : Fr) (w : World) (hI : F.In w) (hok : F.ok = true) :
    Calls Try.prog 51 #[F.v] w fun e w' => ∃ a, e = .returned (.slice a F.rs.length F.rs.length) ∧ Rgs w' a F.gs ∧ From w.heap.size a ∧ (∀ b o, a = some ⟨b, o, none⟩ → b < w'.heap.size) ∧ Keeps w w' :=
  (readings_any F w hI hok).mono fun _ _ ⟨he, hg, hk, hz⟩ => ⟨_, he, hg, fun b o e => by cases e; omega, fun b o e => by cases e; exact hz, hk⟩

set_option maxHeartbeats 800000 in
theorem truths_any (F : Fr) (w : World) (hI : F.In w) (hok : F.ok = true) :
    Calls Try.prog 46 #[F.v] w fun e w' => ∃ v a, e = .returned v ∧ SeqAt w.heap.size w' v F.lo F.hi a F.gs ∧ From w.heap.size a ∧ (∀ b o, a = some ⟨b, o, none⟩ → b < w'.heap.size) ∧ Keeps w w' := by
  have H1 := Lib.hid (fun w1 (k : Keeps w w1) => readings_ex F w1 (hI.keep k) hok)
  have H2 := Lib.hid (fun w1 a => (F.gs_len ▸ agreeing_seq F.lo F.hi a F.rs.length F.gs w1))
  have HB := Lib.hid (Fr.Box.new F w)
  obtain ⟨gs, hgs⟩ : ∃ gs, F.gs = gs := ⟨_, rfl⟩
  rw [hgs] at H1 H2 ⊢
  obtain ⟨wa, wc, ws, lo, hi, ra, rc, rs⟩ := F
  dsimp only [Fr.v] at *
  clear hok hI hgs
  go_enter Try.func46, Try.ntmps46
  go_wp2_with fail
  have k0 := (Keeps.refl w).alloc (.cells #[.slice wa ws.length wc, .int .i64 lo, .int .i64 hi, .slice ra rs.length rc] 27)
  go_region_with (first | (go_at_call 51; refine (H1.out _ k0.drew).mono ?_; rintro e w1 ⟨a, rfl, hg, hfr, hlt, k1⟩; have hc1 := k1.undrew.cells) | (go_at_call 93; refine (H2.out _ _ hg).mono ?_; rintro e w2 ⟨v, rfl, hsq, k2⟩))
  all_goals
    go_wp2
    go_ret
    exact ⟨v, a, rfl, hsq.mono (k0.trans k1.undrew).size, fun b o e => Nat.le_trans k0.size (hfr b o e), fun b o e => Nat.lt_of_lt_of_le (hlt b o e) k2.size, (k0.trans k1.undrew).trans k2⟩
end Go.Proofs.Ytoidnbpbeblokaa
