/-
  Near, whole.
-/
import Derived.Test.YtoidnbpbeblokaaWp
import Derived.Test.YtoidnbpbeblokaaWm
namespace Go.Proofs.Ytoidnbpbeblokaa
open Go.RowKit

/-- truths, with what the loop over it wants, in one word. -/
theorem truths_at (F : Fr) (w : World) (hI : F.In w) (hok : F.ok = true) :
    Calls Try.prog 46 #[F.v] w fun e w' => ∃ b1 b2 a, e = .returned (.func (.func 110) #[] #[.pointer (some ⟨b1, 0, none⟩), .pointer (some ⟨b2, 0, none⟩)]) ∧ Keeps w w' ∧ SeqIn F w' b1 b2 a ∧ b1 < w'.heap.size ∧ b2 < w'.heap.size ∧ (∀ b o, a = some ⟨b, o, none⟩ → b < w'.heap.size) ∧
      w.heap.size ≤ b1 ∧ w.heap.size ≤ b2 ∧ (∀ b o, a = some ⟨b, o, none⟩ → w.heap.size ≤ b) := by
  obtain ⟨l1, l2, l3, _⟩ := F.len_in hok
  refine (truths_any F w hI hok).mono ?_
  rintro e w' ⟨v, a, rfl, ⟨b1, b2, cap, rfl, hm1, hm2, h1, h2, h3, h4⟩, hf, hlt, hk⟩
  rw [← Int.toNat_of_nonneg l1] at h1
  rw [← Int.toNat_of_nonneg (show 0 ≤ F.hi by omega)] at h2
  exact ⟨b1, b2, a, rfl, hk, ⟨cap, h1, h2, h3, h4⟩, lt_of_cell h1, lt_of_cell h3, hlt, hm1, hm2, hf⟩

/-- What an inner function of a fringe and a number is entered with. -/
structure In2 (F : Fr) (n : Int) (b0 b1 : Nat) (w : World) : Prop where
  box : F.Box w b0
  num : w.cell? ⟨b1, 0, none⟩ = some (.int .i64 n)

set_option maxHeartbeats 400000 in
theorem Near1_no1 (F : Fr) (n : Int) (b0 b1 : Nat) (w : World) (hI : F.In w) (hB : In2 F n b0 b1 w) (hok : F.ok = false) :
    Calls Try.prog 66 #[.pointer (some ⟨b0, 0, none⟩), .pointer (some ⟨b1, 0, none⟩)] w (Pan 1 w) := by
  have H1 := Lib.hid (fun w1 (k : Keeps w w1) => needFringe_no F w1 (hI.keep k) hok)
  obtain ⟨⟨g0, g1, g2, g3⟩, hn⟩ := hB
  obtain ⟨wa, wc, ws, lo, hi, ra, rc, rs⟩ := F
  dsimp only [Fr.v] at *
  clear hok hI
  go_enter Try.func66, Try.ntmps66
  go_wp2_with fail
  refine (H1.out _ (Keeps.refl _)).mono ?_
  rintro e w1 ⟨rfl, k1⟩
  exact ⟨rfl, rfl, k1⟩
set_option maxHeartbeats 400000 in
theorem Near1_no2 (F : Fr) (n : Int) (b0 b1 : Nat) (w : World) (hI : F.In w) (hB : In2 F n b0 b1 w) (hok : F.ok = true) (hn2 : n < 0 ∨ 2000 < n) :
    Calls Try.prog 66 #[.pointer (some ⟨b0, 0, none⟩), .pointer (some ⟨b1, 0, none⟩)] w (Pan 2 w) := by
  have H1 := Lib.hid (fun w1 (k : Keeps w w1) => needFringe_yes F w1 (hI.keep k) hok)
  have H2 := Lib.hid (fun w1 => needLength_no n w1 hn2)
  obtain ⟨⟨g0, g1, g2, g3⟩, hn⟩ := hB
  have hlb := lt_of_cell g0
  have hln := lt_of_cell hn
  obtain ⟨wa, wc, ws, lo, hi, ra, rc, rs⟩ := F
  dsimp only [Fr.v] at *
  clear hok hI hn2
  go_enter Try.func66, Try.ntmps66
  go_wp2_with fail
  refine (H1.out _ (Keeps.refl _)).mono ?_
  rintro e w1 ⟨rfl, k1⟩
  have hc1 := k1.cells
  go_wp2_with fail
  refine (H2.out _).mono ?_
  rintro e w2 ⟨rfl, k2⟩
  exact ⟨rfl, rfl, k1.trans k2⟩
set_option maxHeartbeats 400000 in
theorem Near1_no3 (F : Fr) (n : Int) (b0 b1 : Nat) (w : World) (hI : F.In w) (hB : In2 F n b0 b1 w) (hok : F.ok = true) (h1 : 0 ≤ n) (h2 : n ≤ 2000) (ht : F.truths = []) :
    Calls Try.prog 66 #[.pointer (some ⟨b0, 0, none⟩), .pointer (some ⟨b1, 0, none⟩)] w (Pan 10 w) := by
  have H1 := Lib.hid (fun w1 (k : Keeps w w1) => needFringe_yes F w1 (hI.keep k) hok)
  have H2 := Lib.hid (fun w1 => needLength_yes n w1 h1 h2)
  have H3 := Lib.hid (fun w1 (k : Keeps w w1) => needTruth_no F w1 (hI.keep k) hok ht)
  obtain ⟨⟨g0, g1, g2, g3⟩, hn⟩ := hB
  have hlb := lt_of_cell g0
  have hln := lt_of_cell hn
  obtain ⟨wa, wc, ws, lo, hi, ra, rc, rs⟩ := F
  dsimp only [Fr.v] at *
  clear hok hI ht
  go_enter Try.func66, Try.ntmps66
  go_wp2_with fail
  refine (H1.out _ (Keeps.refl _)).mono ?_
  rintro e w1 ⟨rfl, k1⟩
  have hc1 := k1.cells
  go_wp2_with fail
  refine (H2.out _).mono ?_
  rintro e w2 ⟨rfl, k2⟩
  replace k2 := k1.trans k2
  clear hc1
  have hc2 := k2.cells
  go_wp2_with fail
  refine (H3.out _ k2).mono ?_
  rintro e w3 ⟨rfl, k3⟩
  exact ⟨rfl, rfl, k2.trans k3⟩
set_option maxHeartbeats 800000 in
theorem Near1_yes (F : Fr) (n : Int) (b0 b1 : Nat) (w : World) (hI : F.In w) (hB : In2 F n b0 b1 w) (hok : F.ok = true) (h1 : 0 ≤ n) (h2 : n ≤ 2000) (ht : F.truths ≠ []) :
    Calls Try.prog 66 #[.pointer (some ⟨b0, 0, none⟩), .pointer (some ⟨b1, 0, none⟩)] w (RetI (near n F.truths) w) := by
  have H1 := Lib.hid (fun w1 (k : Keeps w w1) => needFringe_yes F w1 (hI.keep k) hok)
  have H2 := Lib.hid (fun w1 => needLength_yes n w1 h1 h2)
  have H3 := Lib.hid (fun w1 (k : Keeps w w1) => needTruth_yes F w1 (hI.keep k) hok ht)
  have H4 := Lib.hid (fun w1 (k : Keeps w w1) => truths_at F w1 (hI.keep k) hok)
  have H5 := Lib.hid (fun b1 b2 a w1 hS x1 x2 x3 => nearest_any F hok b1 b2 a n w1 hS x1 x2 x3 h1 h2)
  obtain ⟨⟨g0, g1, g2, g3⟩, hn⟩ := hB
  have hlb := lt_of_cell g0
  have hln := lt_of_cell hn
  obtain ⟨ts, hts⟩ : ∃ ts, F.truths = ts := ⟨_, rfl⟩
  rw [hts] at H5 ⊢
  obtain ⟨wa, wc, ws, lo, hi, ra, rc, rs⟩ := F
  dsimp only [Fr.v] at *
  clear hok hI ht hts
  go_enter Try.func66, Try.ntmps66
  go_wp2_with fail
  refine (H1.out _ (Keeps.refl _)).mono ?_
  rintro e w1 ⟨rfl, k1⟩
  have hc1 := k1.cells
  go_wp2_with fail
  refine (H2.out _).mono ?_
  rintro e w2 ⟨rfl, k2⟩
  replace k2 := k1.trans k2
  clear hc1
  have hc2 := k2.cells
  go_wp2_with fail
  refine (H3.out _ k2).mono ?_
  rintro e w3 ⟨rfl, k3⟩
  replace k3 := k2.trans k3
  clear hc2
  have hc3 := k3.cells
  go_wp2_with fail
  go_region_with (first | (go_at_call 46; refine (H4.out _ k3.drew).mono ?_; rintro e w4 ⟨c1, c2, a, rfl, k4, hS, x1, x2, x3, _, _, _⟩; have k5 := k3.trans k4.undrew; have hc4 := k5.cells) | (go_at_call 68; refine (H5.out _ _ _ _ hS x1 x2 x3).mono ?_; rintro e w5 ⟨rfl, k6⟩))
  all_goals
    go_wp2
    go_ret
    exact ⟨rfl, k5.trans k6⟩

def nearR (F : Fr) (n : Int) : Int × Int :=
  if F.ok = false then (0, 1) else if n < 0 ∨ 2000 < n then (0, 2) else if F.truths = [] then (0, 10) else (near n F.truths, 0)
theorem Near_any (F : Fr) (n : Int) (w : World) (hI : F.In w) : Calls Try.prog 20 #[F.v, .int .i64 n] w (Ret (.tuple #[.int .i64 (nearR F n).1, .int .i64 (nearR F n).2]) w) := by
  refine (Near_by F n (Is (.int .i64 (nearR F n).1) (nearR F n).2) w fun w1 b0 b1 k hB hn => ?_).mono fun _ _ h => h.ret
  have kk : Keeps w1 (w1.alloc (.cells #[.int .i64 0] 30)) := (Keeps.refl _).alloc _
  have hI2 := hI.keep (k.trans kk)
  have hB2 : In2 F n b0 b1 (w1.alloc (.cells #[.int .i64 0] 30)) := ⟨hB.keep kk, kk.cell hn⟩
  unfold nearR
  cases hok : F.ok with
  | false => exact ans_int_pan _ _ _ _ (fun w => enter_Near1 _ w) (Near1_no1 F n b0 b1 _ hI2 hB2 hok)
  | true =>
    rw [if_neg (by simp)]
    by_cases h2 : n < 0 ∨ 2000 < n
    · rw [if_pos h2]
      exact ans_int_pan _ _ _ _ (fun w => enter_Near1 _ w) (Near1_no2 F n b0 b1 _ hI2 hB2 hok h2)
    · rw [if_neg h2]
      by_cases ht : F.truths = []
      · rw [if_pos ht]
        exact ans_int_pan _ _ _ _ (fun w => enter_Near1 _ w) (Near1_no3 F n b0 b1 _ hI2 hB2 hok (by omega) (by omega) ht)
      · rw [if_neg ht]
        exact ans_int _ _ _ _ (fun w => enter_Near1 _ w) (Near1_yes F n b0 b1 _ hI2 hB2 hok (by omega) (by omega) ht)
end Go.Proofs.Ytoidnbpbeblokaa
