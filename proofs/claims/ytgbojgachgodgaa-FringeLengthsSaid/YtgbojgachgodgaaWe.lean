/-
  Part, whole: every fringe, length and colour.
-/
import Derived.Test.YtgbojgachgodgaaWd
namespace Go.Proofs.Ytgbojgachgodgaa
open Go.RowKit

set_option maxHeartbeats 400000 in
theorem Part1_no1 (F : Fr) (b1 b2 b3 : Nat) (w : World) (hI : F.In w) (hB : F.Box w b1) (hok : F.ok = false) :
    Calls Try.prog 70 #[.pointer (some ⟨b1, 0, none⟩), .pointer (some ⟨b3, 0, none⟩), .pointer (some ⟨b2, 0, none⟩)] w (Pan 1 w) := by
  have H1 := Lib.hid (fun w1 (k : Keeps w w1) => needFringe_no F w1 (hI.keep k) hok)
  obtain ⟨g0, g1, g2, g3⟩ := hB
  have hlb := lt_of_cell g0
  obtain ⟨wa, wc, ws, lo, hi, ra, rc, rs⟩ := F
  dsimp only [Fr.v] at *
  clear hok hI
  go_enter Try.func70, Try.ntmps70
  go_wp2_with fail
  refine (H1.out _ ((Keeps.refl _).alloc _)).mono ?_
  rintro e w1 ⟨rfl, k1⟩
  exact ⟨rfl, rfl, ((Keeps.refl _).alloc _).trans k1⟩
set_option maxHeartbeats 400000 in
theorem Part1_no2 (F : Fr) (b1 b2 b3 : Nat) (c : Int) (w : World) (hI : F.In w) (hB : F.Box w b1) (hc : w.cell? ⟨b3, 0, none⟩ = some (.int .i64 c)) (hok : F.ok = true) (hcw : c < 0 ∨ F.ws.length ≤ c) :
    Calls Try.prog 70 #[.pointer (some ⟨b1, 0, none⟩), .pointer (some ⟨b3, 0, none⟩), .pointer (some ⟨b2, 0, none⟩)] w (Pan 2 w) := by
  have H1 := Lib.hid (fun w1 (k : Keeps w w1) => needFringe_yes F w1 (hI.keep k) hok)
  have H2 := Lib.hid (fun w1 => needColour_no F c w1 hcw)
  obtain ⟨g0, g1, g2, g3⟩ := hB
  have hlb := lt_of_cell g0
  have hlc := lt_of_cell hc
  obtain ⟨wa, wc, ws, lo, hi, ra, rc, rs⟩ := F
  dsimp only [Fr.v] at *
  clear hok hI hcw
  go_enter Try.func70, Try.ntmps70
  go_wp2_with fail
  refine (H1.out _ ((Keeps.refl _).alloc _)).mono ?_
  rintro e w1 ⟨rfl, k1⟩
  have hc1 := k1.cells
  go_wp2_with fail
  refine (H2.out _).mono ?_
  rintro e w2 ⟨rfl, k2⟩
  exact ⟨rfl, rfl, ((Keeps.refl _).alloc _).trans (k1.trans k2)⟩
set_option maxHeartbeats 400000 in
theorem Part1_no3 (F : Fr) (b1 b2 b3 : Nat) (c n : Int) (w : World) (hI : F.In w) (hB : F.Box w b1) (hc : w.cell? ⟨b3, 0, none⟩ = some (.int .i64 c)) (hn : w.cell? ⟨b2, 0, none⟩ = some (.int .i64 n)) (hok : F.ok = true) (hcw : 0 ≤ c) (hcw2 : c < F.ws.length) (hnn : n < 0 ∨ 2000 < n) :
    Calls Try.prog 70 #[.pointer (some ⟨b1, 0, none⟩), .pointer (some ⟨b3, 0, none⟩), .pointer (some ⟨b2, 0, none⟩)] w (Pan 2 w) := by
  have H1 := Lib.hid (fun w1 (k : Keeps w w1) => needFringe_yes F w1 (hI.keep k) hok)
  have H2 := Lib.hid (fun w1 => needColour_yes F c w1 hcw hcw2)
  have H3 := Lib.hid (fun w1 => needLength_no n w1 hnn)
  obtain ⟨g0, g1, g2, g3⟩ := hB
  have hlb := lt_of_cell g0
  have hlc := lt_of_cell hc
  have hln := lt_of_cell hn
  obtain ⟨wa, wc, ws, lo, hi, ra, rc, rs⟩ := F
  dsimp only [Fr.v] at *
  clear hok hI hcw hcw2 hnn
  go_enter Try.func70, Try.ntmps70
  go_wp2_with fail
  refine (H1.out _ ((Keeps.refl _).alloc _)).mono ?_
  rintro e w1 ⟨rfl, k1⟩
  have hc1 := k1.cells
  go_wp2_with fail
  refine (H2.out _).mono ?_
  rintro e w2 ⟨rfl, k2⟩
  replace k2 := k1.trans k2
  clear hc1 k1
  have hc2 := k2.cells
  go_wp2_with fail
  refine (H3.out _).mono ?_
  rintro e w3 ⟨rfl, k3⟩
  exact ⟨rfl, rfl, ((Keeps.refl _).alloc _).trans (k2.trans k3)⟩

theorem enter_Part1 (caps : Array Value) (w : World) : (callFunc 70 caps).run Try.prog w = .ok (.enter 70 caps) w := by kernel_rfl

set_option maxHeartbeats 400000 in
/-- Part: by whatever its inner function comes to. -/
theorem Part_by (F : Fr) (n c : Int) (x y k : Int) (w : World) 
    (H : ∀ (w1 : World) (b1 b2 b3 : Nat), Keeps w w1 → F.Box w1 b1 → w1.cell? ⟨b3, 0, none⟩ = some (.int .i64 c) → w1.cell? ⟨b2, 0, none⟩ = some (.int .i64 n) →
      Calls Try.prog 69 #[.func (.func 70) #[] #[.pointer (some ⟨b1, 0, none⟩), .pointer (some ⟨b3, 0, none⟩), .pointer (some ⟨b2, 0, none⟩)]] w1 (Ret (.tuple #[.agg #[.int .i64 x, .int .i64 y], .int .i64 k]) w1)) :
    Calls Try.prog 22 #[F.v, .int .i64 n, .int .i64 c] w (Ret (.tuple #[.int .i64 x, .int .i64 y, .int .i64 k]) w) := by
  have hmf : ∀ (fn : Fn) (first cap : Array Value) (w : World), (Instr.makeFunc fn first cap).run Try.prog w = .ok (.func fn first cap) w := fun _ _ _ _ => rfl
  have hB := fun w => Fr.Box.new F w
  obtain ⟨wa, wc, ws, lo, hi, ra, rc, rs⟩ := F
  dsimp only [Fr.v] at *
  have HH := Lib.hid H
  have HB := Lib.hid hB
  clear H hB
  go_enter Try.func22, Try.ntmps22
  go_wp2_with fail
  refine (HH.out _ w.heap.size (w.heap.size + 1) (w.heap.size + 2) ?_ ?_ ?_ ?_).mono ?_
  · exact (((Keeps.refl _).alloc _).alloc _).alloc _
  · exact ((HB.out w).keep ((Keeps.refl _).alloc _)).keep ((Keeps.refl _).alloc _)
  · simp [go_sem]
  · simp [go_sem]
  rintro e w1 ⟨rfl, k1⟩
  replace k1 := ((((Keeps.refl _).alloc _).alloc _).alloc _).trans k1
  go_wp2_with fail
  go_quiet (fail)
  go_wp2
  go_ret3
  exact ⟨rfl, (k1.alloc _).drewN _⟩

/-- Part as the document has it: the whole fringes, the part, and the error. -/
def partR (F : Fr) (n c : Int) : Int × Int × Int :=
  if F.ok = false then (0, 0, 1)
  else if c < 0 ∨ F.ws.length ≤ c ∨ n < 0 ∨ 2000 < n then (0, 0, 2)
  else (n / F.ws[c.toNat]?.getD 0, 20 * (n % F.ws[c.toNat]?.getD 0) / F.ws[c.toNat]?.getD 0, 0)

theorem Part_any (F : Fr) (n c : Int) (w : World) (hI : F.In w) :
    Calls Try.prog 22 #[F.v, .int .i64 n, .int .i64 c] w (Ret (.tuple #[.int .i64 (partR F n c).1, .int .i64 (partR F n c).2.1, .int .i64 (partR F n c).2.2]) w) := by
  refine Part_by F n c _ _ _ w fun w1 b1 b2 b3 k hB hc hn => ?_
  unfold partR
  cases hok : F.ok with
  | false =>
    rw [if_pos rfl]
    exact answer_pan_fraction _ _ _ _ (fun w => enter_Part1 _ w) (Part1_no1 F b1 b2 b3 _ (hI.keep (((k.alloc _)).alloc _)) (hB.keep (((Keeps.refl _).alloc _).alloc _)) hok)
  | true =>
    rw [if_neg (by simp)]
    have kk : Keeps w1 ((w1.alloc (.cells #[.int .i64 0, .int .i64 0] 110)).alloc (.cells #[.int .i64 0] 30)) := ((Keeps.refl _).alloc _).alloc _
    by_cases h : c < 0 ∨ F.ws.length ≤ c
    · rw [if_pos (by omega)]
      exact answer_pan_fraction _ _ _ _ (fun w => enter_Part1 _ w) (Part1_no2 F b1 b2 b3 c _ (hI.keep (k.trans kk)) (hB.keep kk) (kk.cell hc) hok h)
    · by_cases h2 : n < 0 ∨ 2000 < n
      · rw [if_pos (by omega)]
        exact answer_pan_fraction _ _ _ _ (fun w => enter_Part1 _ w) (Part1_no3 F b1 b2 b3 c n _ (hI.keep (k.trans kk)) (hB.keep kk) (kk.cell hc) (kk.cell hn) hok (by omega) (by omega) h2)
      · rw [if_neg (by omega)]
        obtain ⟨m, rfl⟩ := Int.eq_ofNat_of_zero_le (a := c) (by omega)
        obtain ⟨j, rfl⟩ := Int.eq_ofNat_of_zero_le (a := n) (by omega)
        exact answer_ok_fraction _ _ _ _ _ (fun w => enter_Part1 _ w) (Part1_yes F b1 b2 b3 m j _ _ (hI.keep (k.trans kk)) (hB.keep kk) (kk.cell hn) (kk.cell hc) hok (by omega) (by simp) (by omega))
end Go.Proofs.Ytgbojgachgodgaa
