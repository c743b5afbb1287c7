/-
  Which sets of readings suit: the questions that Wrong and Clash ask.
-/
import Derived.Test.YtgbojgachgodgaaXb
import Derived.Test.YtgbojgachgodgaaWm
namespace Go.Proofs.Ytgbojgachgodgaa
open Go.RowKit Go.Shelf

/-- Do the readings but those of x agree? -/
def Fr.agreeW (F : Fr) (x : Nat) : Bool := agreeB F.lo.toNat F.hi.toNat (wo F.gs x)
theorem agree_wo (F : Fr) (hok : F.ok = true) (x : Nat) (a : Option Addr) (cap : Nat) (w : World) (hg : Rgs w a (wo F.gs x)) (hgb : ∀ b o, a = some ⟨b, o, none⟩ → b < w.heap.size) :
    Calls Try.prog 55 #[.agg #[.int .i64 F.lo, .int .i64 F.hi], .slice a (wo F.gs x).length cap] w (RetB (F.agreeW x) w) := by
  obtain ⟨l1, l2, l3, _⟩ := F.len_in hok
  have hlen := (keptTo_len F.gs x 0 (Nat.zero_le _)).2
  have h := agree_any F.lo.toNat F.hi.toNat a cap (wo F.gs x) w hg hgb (by omega) (by have := F.rl_in hok; rw [F.gs_len] at hlen; unfold maxLen; unfold wo; omega) (fun g hgm => F.gs_ok hok g (wo_sub _ _ g hgm))
  rw [Int.toNat_of_nonneg l1, Int.toNat_of_nonneg (by omega)] at h
  exact h

set_option maxHeartbeats 1600000 in
theorem Wrong11_any (F : Fr) (hok : F.ok = true) (b0 b2 x : Nat) (hx : x < 64) (a : Option Addr) (cap : Nat) (w : World) (hB : F.Box w b0) (h2 : w.cell? ⟨b2, 0, none⟩ = some (.slice a F.gs.length cap)) (hg : Rgs w a F.gs) :
    Calls Try.prog 54 #[.int .i64 x, .pointer (some ⟨b0, 0, none⟩), .pointer (some ⟨b2, 0, none⟩)] w (RetB (F.agreeW x) w) := by
  have hgl : F.gs.length ≤ 6 := by rw [F.gs_len]; exact F.rl_in hok
  have H1 := Lib.hid (fun w1 (k : Keeps w w1) => without_any a cap F.gs x w1 (hg.keep k) hgl hx)
  have H2 := Lib.hid (fun a' cap' w1 hg' hgb' => agree_wo F hok x a' cap' w1 hg' hgb')
  obtain ⟨g0, g1, g2, g3⟩ := hB
  obtain ⟨v, hv⟩ : ∃ v, F.agreeW x = v := ⟨_, rfl⟩
  obtain ⟨n, hn⟩ : ∃ n, F.gs.length = n := ⟨_, rfl⟩
  obtain ⟨L, hL⟩ : ∃ L, wo F.gs x = L := ⟨_, rfl⟩
  rw [hv, hL] at H2
  rw [hv]
  rw [hn, hL] at H1
  rw [hn] at h2
  obtain ⟨wa, wc, ws, lo, hi, ra, rc, rs⟩ := F
  dsimp only at *
  have hlb := lt_of_cell g0
  have hl2 := lt_of_cell h2
  clear hok hg hgl hv hn hL hx
  go_enter Try.func54, Try.ntmps54
  go_wp2_with fail
  have k0 := (Keeps.refl w).drew
  have K0 := Lib.hid k0
  clear k0
  go_region_with (first | (go_at_call 56; refine (H1.out _ K0.out).mono ?_; rintro e w1 ⟨⟨B, cap', rfl, hBl, hBs, hg1⟩, k1⟩; have hc1 := k1.undrew.cells) | (go_at_call 55; refine (H2.out _ _ _ hg1 (fun b o e => by cases e; exact hBs)).mono ?_; rintro e w2 ⟨rfl, k2⟩))
  all_goals
    go_wp2
    go_ret
    exact ⟨rfl, k1.undrew.trans k2⟩

/-- What is in t and not in x. -/
def cm (t x : Nat) : Nat := t ^^^ (t &&& x)
theorem andNot_bits : ∀ t : Nat, t < 64 → ∀ x : Nat, x < 64 → bits BinOp.andNot IntKind.i64 (t : Int) (x : Int) = ((cm t x : Nat) : Int) ∧ cm t x < 64 := by decide +kernel

set_option maxHeartbeats 1600000 in
theorem Clash11_any (F : Fr) (hok : F.ok = true) (b0 b2 b3 x t : Nat) (hx : x < 64) (ht : t < 64) (a : Option Addr) (cap : Nat) (w : World) (hB : F.Box w b0) (h2 : w.cell? ⟨b2, 0, none⟩ = some (.slice a F.gs.length cap)) (h3 : w.cell? ⟨b3, 0, none⟩ = some (.int .i64 t)) (hg : Rgs w a F.gs) :
    Calls Try.prog 64 #[.int .i64 x, .pointer (some ⟨b0, 0, none⟩), .pointer (some ⟨b2, 0, none⟩), .pointer (some ⟨b3, 0, none⟩)] w (RetB (!F.agreeW (cm t x)) w) := by
  have hgl : F.gs.length ≤ 6 := by rw [F.gs_len]; exact F.rl_in hok
  obtain ⟨hy, hylt⟩ := andNot_bits t ht x hx
  obtain ⟨y, hyv⟩ : ∃ y, cm t x = y := ⟨_, rfl⟩
  rw [hyv] at hy hylt ⊢
  have H1 := Lib.hid (fun w1 (k : Keeps w w1) => without_any a cap F.gs y w1 (hg.keep k) hgl hylt)
  have H2 := Lib.hid (fun a' cap' w1 hg' hgb' => agree_wo F hok y a' cap' w1 hg' hgb')
  rw [← hy] at H1
  obtain ⟨g0, g1, g2, g3⟩ := hB
  obtain ⟨v, hv⟩ : ∃ v, F.agreeW y = v := ⟨_, rfl⟩
  obtain ⟨n, hn⟩ : ∃ n, F.gs.length = n := ⟨_, rfl⟩
  obtain ⟨L, hL⟩ : ∃ L, wo F.gs y = L := ⟨_, rfl⟩
  rw [hv, hL] at H2
  rw [hv]
  rw [hn, hL] at H1
  rw [hn] at h2
  obtain ⟨wa, wc, ws, lo, hi, ra, rc, rs⟩ := F
  dsimp only at *
  have hlb := lt_of_cell g0
  have hl2 := lt_of_cell h2
  have hl3 := lt_of_cell h3
  clear hok hg hgl hv hn hL hx ht hy hyv hylt
  go_enter Try.func64, Try.ntmps64
  go_wp2_with fail
  have k0 := (Keeps.refl w).drew
  have K0 := Lib.hid k0
  clear k0
  go_region_with (first | (go_at_call 56; refine (H1.out _ K0.out).mono ?_; rintro e w1 ⟨⟨B, cap', rfl, hBl, hBs, hg1⟩, k1⟩; have hc1 := k1.undrew.cells) | (go_at_call 55; refine (H2.out _ _ _ hg1 (fun b o e => by cases e; exact hBs)).mono ?_; rintro e w2 ⟨rfl, k2⟩))
  all_goals
    go_wp2
    go_ret
    exact ⟨rfl, k1.undrew.trans k2⟩
end Go.Proofs.Ytgbojgachgodgaa
