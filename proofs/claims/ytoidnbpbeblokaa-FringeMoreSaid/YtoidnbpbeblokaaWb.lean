/-
  needFringe, needColour, needLength: they return, or panic with the error that the document names.
  needColour, needLength.
-/
import Derived.Test.YtoidnbpbeblokaaWa
namespace Go.Proofs.Ytoidnbpbeblokaa
open Go.RowKit

/-- A fringe as a value: its waves, from which length to which one, and its readings. -/
structure Fr where
  wa : Option Addr
  wc : Nat
  ws : List Int
  lo : Int
  hi : Int
  ra : Option Addr
  rc : Nat
  rs : List Rd
abbrev Fr.v (F : Fr) : Value := .agg #[.slice F.wa F.ws.length F.wc, .int .i64 F.lo, .int .i64 F.hi, .slice F.ra F.rs.length F.rc]
/-- The value reads so in the world. -/
structure Fr.In (F : Fr) (w : World) : Prop where
  ints : Ints w F.wa F.ws
  rds : Rds w F.ra F.rs
  wl : F.ws.length ≤ maxLen
  rl : F.rs.length ≤ maxLen
theorem Fr.In.keep {F : Fr} {w w' : World} (h : F.In w) (k : Keeps w w') : F.In w' := ⟨h.ints.keep k, h.rds.keep k, h.wl, h.rl⟩
def Fr.ok (F : Fr) : Bool := vFringe F.ws F.lo F.hi F.rs

/-- The call panics with an error. -/
def Pan (k : Int) (w : World) (e : Ending) (w' : World) : Prop :=
  e = .panicked [{ v := .iface 30 (.int .i64 k), recovered := false }] ∧ Keeps w w'

theorem vFringe_eq {ws : List Int} {lo hi : Int} {rs : List Rd} {a b c d : Bool} (ha : vWaves ws = a) (hb : vLen lo hi = b) (hc : vReads rs ws.length = c) (hd : (a && b && c) = d) : vFringe ws lo hi rs = d := by
  rw [← hd, ← ha, ← hb, ← hc]; rfl

set_option maxHeartbeats 800000 in
theorem needFringe_ok (F : Fr) (w : World) (hI : F.In w) (e1 : vWaves F.ws = true) (e2 : vLen F.lo F.hi = true) (e3 : vReads F.rs F.ws.length = true) : Calls Try.prog 42 #[F.v] w (Ret (.tuple #[]) w) := by
  obtain ⟨wa, wc, ws, lo, hi, ra, rc, rs⟩ := F
  obtain ⟨hi1, hi2, hl1, hl2⟩ := hI
  dsimp only [Fr.v, Fr.ok] at *
  have c1 : ∀ w1, Keeps w w1 → Calls Try.prog 90 #[.slice wa ws.length wc] w1 (RetB true w1) := fun w1 k => e1 ▸ validWaves_any wa wc ws w1 (hi1.keep k) hl1
  have C1 := Lib.hid c1
  clear c1
  have c2 : ∀ w1, Calls Try.prog 91 #[.agg #[.int .i64 lo, .int .i64 hi]] w1 (RetB true w1) := fun w1 => e2 ▸ validLength_any lo hi w1
  have C2 := Lib.hid c2
  clear c2
  have c3 : ∀ w1, Keeps w w1 → Calls Try.prog 92 #[.slice ra rs.length rc, .int .i64 ws.length] w1 (RetB true w1) := fun w1 k => e3 ▸ validReads_any ra rc rs ws.length w1 (hi2.keep k) hl2
  have C3 := Lib.hid c3
  clear c3
  unfold maxLen at hl1 hl2
  clear hi1 hi2 e1 e2 e3
  go_enter Try.func42, Try.ntmps42
  go_wp2_with fail
  refine (C1.out _ ((Keeps.refl _).alloc _)).mono ?_
  rintro e w1 ⟨rfl, hk1⟩
  have k1 := ((Keeps.refl w).alloc (.cells #[.slice wa ws.length wc, .int .i64 lo, .int .i64 hi, .slice ra rs.length rc] 27)).trans hk1
  have hc1 := hk1.cells
  go_wp2_with fail
  refine (C2.out _).mono ?_
  rintro e w2 ⟨rfl, hk2⟩
  have hc2 := hk2.cells
  have hz1 : w.heap.size < w1.heap.size := by have := hk1.size; simp at this; omega
  go_wp2_with fail
  refine (C3.out _ (k1.trans hk2)).mono ?_
  rintro e w3 ⟨rfl, hk3⟩
  go_wp2_with fail
  go_end0
  exact ⟨rfl, (k1.trans hk2).trans hk3⟩

set_option maxHeartbeats 800000 in
theorem needFringe_3 (F : Fr) (w : World) (hI : F.In w) (e1 : vWaves F.ws = true) (e2 : vLen F.lo F.hi = true) (e3 : vReads F.rs F.ws.length = false) : Calls Try.prog 42 #[F.v] w (Pan 1 w) := by
  obtain ⟨wa, wc, ws, lo, hi, ra, rc, rs⟩ := F
  obtain ⟨hi1, hi2, hl1, hl2⟩ := hI
  dsimp only [Fr.v, Fr.ok] at *
  have c1 : ∀ w1, Keeps w w1 → Calls Try.prog 90 #[.slice wa ws.length wc] w1 (RetB true w1) := fun w1 k => e1 ▸ validWaves_any wa wc ws w1 (hi1.keep k) hl1
  have C1 := Lib.hid c1
  clear c1
  have c2 : ∀ w1, Calls Try.prog 91 #[.agg #[.int .i64 lo, .int .i64 hi]] w1 (RetB true w1) := fun w1 => e2 ▸ validLength_any lo hi w1
  have C2 := Lib.hid c2
  clear c2
  have c3 : ∀ w1, Keeps w w1 → Calls Try.prog 92 #[.slice ra rs.length rc, .int .i64 ws.length] w1 (RetB false w1) := fun w1 k => e3 ▸ validReads_any ra rc rs ws.length w1 (hi2.keep k) hl2
  have C3 := Lib.hid c3
  clear c3
  unfold maxLen at hl1 hl2
  clear hi1 hi2 e1 e2 e3
  go_enter Try.func42, Try.ntmps42
  go_wp2_with fail
  refine (C1.out _ ((Keeps.refl _).alloc _)).mono ?_
  rintro e w1 ⟨rfl, hk1⟩
  have k1 := ((Keeps.refl w).alloc (.cells #[.slice wa ws.length wc, .int .i64 lo, .int .i64 hi, .slice ra rs.length rc] 27)).trans hk1
  have hc1 := hk1.cells
  go_wp2_with fail
  refine (C2.out _).mono ?_
  rintro e w2 ⟨rfl, hk2⟩
  have hc2 := hk2.cells
  have hz1 : w.heap.size < w1.heap.size := by have := hk1.size; simp at this; omega
  go_wp2_with fail
  refine (C3.out _ (k1.trans hk2)).mono ?_
  rintro e w3 ⟨rfl, hk3⟩
  go_wp2_with fail
  exact ⟨rfl, rfl, (k1.trans hk2).trans hk3⟩

set_option maxHeartbeats 800000 in
theorem needFringe_2 (F : Fr) (w : World) (hI : F.In w) (e1 : vWaves F.ws = true) (e2 : vLen F.lo F.hi = false) : Calls Try.prog 42 #[F.v] w (Pan 1 w) := by
  obtain ⟨wa, wc, ws, lo, hi, ra, rc, rs⟩ := F
  obtain ⟨hi1, hi2, hl1, hl2⟩ := hI
  dsimp only [Fr.v, Fr.ok] at *
  have c1 : ∀ w1, Keeps w w1 → Calls Try.prog 90 #[.slice wa ws.length wc] w1 (RetB true w1) := fun w1 k => e1 ▸ validWaves_any wa wc ws w1 (hi1.keep k) hl1
  have C1 := Lib.hid c1
  clear c1
  have c2 : ∀ w1, Calls Try.prog 91 #[.agg #[.int .i64 lo, .int .i64 hi]] w1 (RetB false w1) := fun w1 => e2 ▸ validLength_any lo hi w1
  have C2 := Lib.hid c2
  clear c2
  unfold maxLen at hl1 hl2
  clear hi1 hi2 e1 e2
  go_enter Try.func42, Try.ntmps42
  go_wp2_with fail
  refine (C1.out _ ((Keeps.refl _).alloc _)).mono ?_
  rintro e w1 ⟨rfl, hk1⟩
  have k1 := ((Keeps.refl w).alloc (.cells #[.slice wa ws.length wc, .int .i64 lo, .int .i64 hi, .slice ra rs.length rc] 27)).trans hk1
  have hc1 := hk1.cells
  go_wp2_with fail
  refine (C2.out _).mono ?_
  rintro e w2 ⟨rfl, hk2⟩
  have hc2 := hk2.cells
  have hz1 : w.heap.size < w1.heap.size := by have := hk1.size; simp at this; omega
  go_wp2_with fail
  exact ⟨rfl, rfl, k1.trans hk2⟩

set_option maxHeartbeats 800000 in
theorem needFringe_1 (F : Fr) (w : World) (hI : F.In w) (e1 : vWaves F.ws = false) : Calls Try.prog 42 #[F.v] w (Pan 1 w) := by
  obtain ⟨wa, wc, ws, lo, hi, ra, rc, rs⟩ := F
  obtain ⟨hi1, hi2, hl1, hl2⟩ := hI
  dsimp only [Fr.v, Fr.ok] at *
  have c1 : ∀ w1, Keeps w w1 → Calls Try.prog 90 #[.slice wa ws.length wc] w1 (RetB false w1) := fun w1 k => e1 ▸ validWaves_any wa wc ws w1 (hi1.keep k) hl1
  have C1 := Lib.hid c1
  clear c1
  unfold maxLen at hl1 hl2
  clear hi1 hi2 e1
  go_enter Try.func42, Try.ntmps42
  go_wp2_with fail
  refine (C1.out _ ((Keeps.refl _).alloc _)).mono ?_
  rintro e w1 ⟨rfl, hk1⟩
  have k1 := ((Keeps.refl w).alloc (.cells #[.slice wa ws.length wc, .int .i64 lo, .int .i64 hi, .slice ra rs.length rc] 27)).trans hk1
  have hc1 := hk1.cells
  go_wp2_with fail
  exact ⟨rfl, rfl, k1⟩


theorem needFringe_yes (F : Fr) (w : World) (hI : F.In w) (hok : F.ok = true) : Calls Try.prog 42 #[F.v] w (Ret (.tuple #[]) w) := by
  have hok' := hok
  simp only [Fr.ok, vFringe, Bool.and_eq_true] at hok'
  exact needFringe_ok F w hI hok'.1.1 hok'.1.2 hok'.2
theorem needFringe_no (F : Fr) (w : World) (hI : F.In w) (hok : F.ok = false) : Calls Try.prog 42 #[F.v] w (Pan 1 w) := by
  cases e1 : vWaves F.ws with
  | false => exact needFringe_1 F w hI e1
  | true =>
    cases e2 : vLen F.lo F.hi with
    | false => exact needFringe_2 F w hI e1 e2
    | true =>
      cases e3 : vReads F.rs F.ws.length with
      | false => exact needFringe_3 F w hI e1 e2 e3
      | true => simp [Fr.ok, vFringe, e1, e2, e3] at hok

end Go.Proofs.Ytoidnbpbeblokaa

namespace Go.Proofs.Ytoidnbpbeblokaa
open Go.RowKit
set_option maxHeartbeats 400000 in
theorem needColour_yes (F : Fr) (c : Int) (w : World) (h1 : 0 ≤ c) (h2 : c < F.ws.length) : Calls Try.prog 71 #[F.v, .int .i64 c] w (Ret (.tuple #[]) w) := by
  obtain ⟨wa, wc, ws, lo, hi, ra, rc, rs⟩ := F
  dsimp only [Fr.v] at *
  go_enter Try.func71, Try.ntmps71
  go_wp2
  all_goals first | (exfalso; omega) | (refine bodyPost_end (results_none rfl _ _ _) rfl ?_; exact ⟨rfl, (Keeps.refl _).alloc _⟩)
set_option maxHeartbeats 400000 in
theorem needColour_no (F : Fr) (c : Int) (w : World) (h1 : c < 0 ∨ F.ws.length ≤ c) : Calls Try.prog 71 #[F.v, .int .i64 c] w (Pan 2 w) := by
  obtain ⟨wa, wc, ws, lo, hi, ra, rc, rs⟩ := F
  dsimp only [Fr.v] at *
  by_cases h : c < 0
  · go_enter Try.func71, Try.ntmps71
    go_wp2
    all_goals first | (exfalso; omega) | exact ⟨rfl, rfl, (Keeps.refl _).alloc _⟩
  · have h' : ws.length ≤ c := by omega
    clear h1
    go_enter Try.func71, Try.ntmps71
    go_wp2
    all_goals first | (exfalso; omega) | exact ⟨rfl, rfl, (Keeps.refl _).alloc _⟩
set_option maxHeartbeats 400000 in
theorem needLength_yes (n : Int) (w : World) (h1 : 0 ≤ n) (h2 : n ≤ 2000) : Calls Try.prog 67 #[.int .i64 n] w (Ret (.tuple #[]) w) := by
  go_enter Try.func67, Try.ntmps67
  go_wp2
  all_goals first | (exfalso; omega) | (refine bodyPost_end (results_none rfl _ _ _) rfl ?_; exact ⟨rfl, Keeps.refl _⟩)
set_option maxHeartbeats 400000 in
theorem needLength_no (n : Int) (w : World) (h : n < 0 ∨ 2000 < n) : Calls Try.prog 67 #[.int .i64 n] w (Pan 2 w) := by
  rcases h with h | h
  all_goals
    go_enter Try.func67, Try.ntmps67
    go_wp2
    all_goals first | (exfalso; omega) | exact ⟨rfl, rfl, Keeps.refl _⟩
end Go.Proofs.Ytoidnbpbeblokaa
