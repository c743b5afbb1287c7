/-
  needColour, needLength.
-/
import Derived.Test.YtgbojgachgodgaaWb
namespace Go.Proofs.Ytgbojgachgodgaa
open Go.RowKit
set_option maxHeartbeats 400000 in
theorem needColour_yes (F : Fr) (c : Int) (w : World) (h1 : 0 ≤ c) (h2 : c < F.ws.length) : Calls Try.prog 71 #[F.v, .int .i64 c] w (Ret (.tuple #[]) w) := by
  obtain ⟨wa, wc, ws, lo, hi, ra, rc, rs⟩ := F
  dsimp only [Fr.v] at *
  go_enter Try.func71, Try.ntmps71
  go_wp2
  all_goals first | (exfalso; omega) | (refine bodyPost_end (results_none rfl _ _ _) rfl ?_; exact ⟨rfl, (Keeps.refl _).alloc _⟩)
set_option maxHeartbeats 400000 in
theorem needColour_no (F : Fr) (c : Int) (w : World) (h1 : c < 0 ∨ F.ws.length ≤ c) : Calls Try.prog 71 #[F.v, .int .i64 c] w (Pan 2 w) := by
  obtain ⟨wa, wc, ws, lo, hi, ra, rc, rs⟩ := F
  dsimp only [Fr.v] at *
  by_cases h : c < 0
  · go_enter Try.func71, Try.ntmps71
    go_wp2
    all_goals first | (exfalso; omega) | exact ⟨rfl, rfl, (Keeps.refl _).alloc _⟩
  · have h' : ws.length ≤ c := by omega
    clear h1
    go_enter Try.func71, Try.ntmps71
    go_wp2
    all_goals first | (exfalso; omega) | exact ⟨rfl, rfl, (Keeps.refl _).alloc _⟩
set_option maxHeartbeats 400000 in
theorem needLength_yes (n : Int) (w : World) (h1 : 0 ≤ n) (h2 : n ≤ 2000) : Calls Try.prog 67 #[.int .i64 n] w (Ret (.tuple #[]) w) := by
  go_enter Try.func67, Try.ntmps67
  go_wp2
  all_goals first | (exfalso; omega) | (refine bodyPost_end (results_none rfl _ _ _) rfl ?_; exact ⟨rfl, Keeps.refl _⟩)
set_option maxHeartbeats 400000 in
theorem needLength_no (n : Int) (w : World) (h : n < 0 ∨ 2000 < n) : Calls Try.prog 67 #[.int .i64 n] w (Pan 2 w) := by
  rcases h with h | h
  all_goals
    go_enter Try.func67, Try.ntmps67
    go_wp2
    all_goals first | (exfalso; omega) | exact ⟨rfl, rfl, Keeps.refl _⟩
end Go.Proofs.Ytgbojgachgodgaa
