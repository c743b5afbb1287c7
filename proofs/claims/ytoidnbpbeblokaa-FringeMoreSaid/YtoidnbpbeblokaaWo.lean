/-
  Period, whole.
-/
import Derived.Test.YtoidnbpbeblokaaWm
import Derived.Test.YtoidnbpbeblokaaWn
namespace Go.Proofs.Ytoidnbpbeblokaa
open Go.RowKit

set_option maxHeartbeats 400000 in
theorem Period1_no (F : Fr) (b0 : Nat) (w : World) (hI : F.In w) (hB : F.Box w b0) (hok : F.ok = false) :
    Calls Try.prog 83 #[.pointer (some ⟨b0, 0, none⟩)] w (Pan 1 w) := by
  have H1 := Lib.hid (fun w1 (k : Keeps w w1) => needFringe_no F w1 (hI.keep k) hok)
  obtain ⟨g0, g1, g2, g3⟩ := hB
  have hlb := lt_of_cell g0
  obtain ⟨wa, wc, ws, lo, hi, ra, rc, rs⟩ := F
  dsimp only [Fr.v] at *
  clear hok hI
  go_enter Try.func83, Try.ntmps83
  go_wp2_with fail
  refine (H1.out _ (Keeps.refl _)).mono ?_
  rintro e w1 ⟨rfl, k1⟩
  exact ⟨rfl, rfl, k1⟩
set_option maxHeartbeats 400000 in
theorem Period1_yes (F : Fr) (b0 : Nat) (w : World) (hI : F.In w) (hB : F.Box w b0) (hok : F.ok = true) :
    Calls Try.prog 83 #[.pointer (some ⟨b0, 0, none⟩)] w (RetI (period F.ws) w) := by
  have H1 := Lib.hid (fun w1 (k : Keeps w w1) => needFringe_yes F w1 (hI.keep k) hok)
  have H2 := Lib.hid (fun w1 (k : Keeps w w1) => waves_any F w1 (hI.keep k) hok)
  have H3 := Lib.hid (fun a w1 hw => multiply_any a F.ws w1 hw (F.wl_in hok).2 (fun i hi => F.wave_in hok hi))
  obtain ⟨g0, g1, g2, g3⟩ := hB
  have hlb := lt_of_cell g0
  obtain ⟨wa, wc, ws, lo, hi, ra, rc, rs⟩ := F
  dsimp only [Fr.v] at *
  clear hok hI
  go_enter Try.func83, Try.ntmps83
  go_wp2_with fail
  refine (H1.out _ (Keeps.refl _)).mono ?_
  rintro e w1 ⟨rfl, k1⟩
  have hc1 := k1.cells
  go_wp2_with fail
  refine (H2.out _ k1).mono ?_
  rintro e w2 ⟨a, rfl, ha, k2, _⟩
  go_wp2_with fail
  refine (H3.out _ _ ha).mono ?_
  rintro e w3 ⟨rfl, k3⟩
  go_wp2_with fail
  go_ret
  exact ⟨rfl, (k1.trans k2).trans k3⟩

def periodR (F : Fr) : Int × Int := if F.ok then (period F.ws, 0) else (0, 1)
theorem Period_any (F : Fr) (w : World) (hI : F.In w) : Calls Try.prog 33 #[F.v] w (Ret (.tuple #[.int .i64 (periodR F).1, .int .i64 (periodR F).2]) w) := by
  refine (Period_by F (Is (.int .i64 (periodR F).1) (periodR F).2) w fun w1 b0 k hB => ?_).mono fun _ _ h => h.ret
  have kk : Keeps w1 (w1.alloc (.cells #[.int .i64 0] 30)) := (Keeps.refl _).alloc _
  unfold periodR
  cases hok : F.ok with
  | true => exact ans_int _ _ _ _ (fun w => enter_Period1 _ w) (Period1_yes F b0 _ (hI.keep (k.trans kk)) (hB.keep kk) hok)
  | false => exact ans_int_pan _ _ _ _ (fun w => enter_Period1 _ w) (Period1_no F b0 _ (hI.keep (k.trans kk)) (hB.keep kk) hok)
end Go.Proofs.Ytoidnbpbeblokaa
