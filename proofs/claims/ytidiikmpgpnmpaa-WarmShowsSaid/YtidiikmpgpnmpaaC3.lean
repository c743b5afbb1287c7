/-
  WARM: truths; each, shown, heldAt; howLong, howMuch; the span of ends.
-/
import Derived.Test.YtidiikmpgpnmpaaB8
import Derived.Deep.RegionWith
namespace Go.Proofs.Ytidiikmpgpnmpaa
open Go.RowKit Go.Maps

theorem readings_at (B : Wm) (w : World) (hI : B.In w) (hok : B.ok = true) :
    Calls Try.prog 61 #[B.v] w fun e w' => ∃ a, e = .returned (.slice a B.rs.length B.rs.length) ∧ Rgs w' a B.rs ∧ (∀ b o, a = some ⟨b, o, none⟩ → b < w'.heap.size) ∧ Keeps w w' :=
  (readings_any B w hI hok).mono fun _ _ ⟨he, hg, hk, hz⟩ => ⟨_, he, hg, fun b o e => by cases e; exact hz, hk⟩
theorem left_at (B : Wm) (hok : B.ok = true) (a : Option Addr) (w : World) (hR : Rgs w a B.rs) (hRb : ∀ b o, a = some ⟨b, o, none⟩ → b < w.heap.size) :
    Calls Try.prog 76 #[B.v, .slice a B.rs.length B.rs.length] w fun e w' => ∃ b, e = .returned (.map (some b)) ∧ Pset w' b B.mark B.truths ∧ Keeps w w' ∧ w.heap.size ≤ b :=
  left_any B (Wm.ok_lim hok) B.rs a B.rs.length w (fun r hr => vWr_okW ((vWrs_at (Wm.ok_reads hok)).2 r hr)) (vWrs_at (Wm.ok_reads hok)).1 hR hRb

set_option maxHeartbeats 1600000 in
theorem truths_b (B : Wm) (w : World) (hI : B.In w) (hok : B.ok = true) (t : Bool) (ht : B.truths.isEmpty = t) :
    Calls Try.prog 51 #[B.v] w (if t then Pan 10 w else fun e w' => ∃ b, e = .returned (.map (some b)) ∧ Pset w' b B.mark B.truths ∧ Keeps w w' ∧ w.heap.size ≤ b) := by
  have H1 := Lib.hid (fun w1 (k : Keeps w w1) => readings_at B w1 (hI.keep k) hok)
  have H2 := Lib.hid (fun w1 a hg hb => left_at B hok a w1 hg hb)
  have hl : t = (B.truths.length == 0) := by rw [← ht]; cases B.truths <;> rfl
  obtain ⟨ts, hts⟩ : ∃ ts, B.truths = ts := ⟨_, rfl⟩
  rw [hts] at H2 hl ⊢
  obtain ⟨mark, llo, lhi, clo, chi, ra, rc, rs⟩ := B
  dsimp only [Wm.v] at *
  clear hok hI hts ht
  have k0 := (Keeps.refl w).alloc (.cells #[.int .i64 mark, .int .i64 llo, .int .i64 lhi, .int .i64 clo, .int .i64 chi, .slice ra rs.length rc] 26)
  cases t
  all_goals
    simp only [if_true, Bool.false_eq_true, if_false]
    go_enter Try.func51, Try.ntmps51
    go_wp2_with fail
    go_region_with (first | (go_at_call 61; refine (H1.out _ k0.drew).mono ?_; rintro e w1 ⟨a, rfl, hg, hb, k1⟩; have hc1 := k1.undrew.cells) | (go_at_call 76; refine (H2.out _ _ hg hb).mono ?_; rintro e w2 ⟨b, rfl, hp, k2, hb2⟩; have hlen := hp.len; have kk := (k0.trans k1.undrew).trans k2; have hle : w.heap.size ≤ b := by have := k0.size; have := k1.undrew.size; omega))
  all_goals
    have HP := Lib.hid hp
    have hl' : ((ts.length : Int) == 0) = _ := (show ((ts.length : Int) == 0) = (ts.length == 0) by rw [Bool.eq_iff_iff]; simp).trans hl.symm
    clear hp hl
    go_wp2
    first
    | exact ⟨rfl, rfl, kk⟩
    | (go_ret; exact ⟨b, rfl, HP.out, kk, hle⟩)
end Go.Proofs.Ytidiikmpgpnmpaa
