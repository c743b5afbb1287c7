/-
  WARM, layer 2: a block as numbers; within, wide, validWarmth, validReadings.
-/
import Derived.Test.YtidiikmpgpnmpaaRows
import Derived.Test.YtidiikmpgpnmpaaK
import Derived.WalkKit
import Derived.OwnWalk
import Derived.RegionTactic
import Derived.ChangeAlike
import Derived.Deep.QuietTactic
import Derived.BigQuiet
import Derived.BigGuardPart
import Derived.WalkLawsBesides
import Derived.Outline
import Derived.IntWalk
namespace Go.Proofs.Ytidiikmpgpnmpaa
open Go.RowKit

/-- A reading: from which warmth to which, and from which number to which one it showed. -/
abbrev Wr := Int × Int × Int × Int
def inS (lo hi a b : Int) : Bool := decide (a ≤ lo ∧ lo ≤ hi ∧ hi ≤ b)
/-- The slice at a holds these readings, four cells each. -/
def Wrs (w : World) (a : Option Addr) (rs : List Wr) : Prop :=
  rs ≠ [] → ∃ b o, a = some ⟨b, o, none⟩ ∧ ∀ i, i < rs.length → w.cell? ⟨b, o + i * 4, none⟩ = some (.int .i64 (rs[i]?.getD (0, 0, 0, 0)).1) ∧ w.cell? ⟨b, o + i * 4 + 1, none⟩ = some (.int .i64 (rs[i]?.getD (0, 0, 0, 0)).2.1) ∧
    w.cell? ⟨b, o + i * 4 + 2, none⟩ = some (.int .i64 (rs[i]?.getD (0, 0, 0, 0)).2.2.1) ∧ w.cell? ⟨b, o + i * 4 + 3, none⟩ = some (.int .i64 (rs[i]?.getD (0, 0, 0, 0)).2.2.2)
theorem Wrs.keep {w w' : World} {a : Option Addr} {xs : List Wr} (h : Wrs w a xs) (k : Keeps w w') : Wrs w' a xs := by
  intro hx
  obtain ⟨b, o, e, hc⟩ := h hx
  exact ⟨b, o, e, fun i hi => ⟨k.cell (hc i hi).1, k.cell (hc i hi).2.1, k.cell (hc i hi).2.2.1, k.cell (hc i hi).2.2.2⟩⟩
/-- A block. -/
structure Wm where
  mark : Int
  llo : Int
  lhi : Int
  clo : Int
  chi : Int
  ra : Option Addr
  rc : Nat
  rs : List Wr
def Wm.v (B : Wm) : Value := .agg #[.int .i64 B.mark, .int .i64 B.llo, .int .i64 B.lhi, .int .i64 B.clo, .int .i64 B.chi, .slice B.ra B.rs.length B.rc]
structure Wm.In (B : Wm) (w : World) : Prop where
  rds : Wrs w B.ra B.rs
  rl : B.rs.length ≤ maxLen
theorem Wm.In.keep {B : Wm} {w w' : World} (h : B.In w) (k : Keeps w w') : B.In w' := ⟨h.rds.keep k, h.rl⟩
/-- Is a reading valid? -/
def vWr (r : Wr) : Bool := inS r.1 r.2.1 (-100) 100 && decide (r.2.1 - r.1 ≤ 4) && inS r.2.2.1 r.2.2.2 (-30000) 30000
def vWrs (rs : List Wr) : Bool := decide (rs.length ≤ 5) && rs.all vWr
/-- Is a block valid? -/
def Wm.ok (B : Wm) : Bool := decide (1 ≤ B.mark ∧ B.mark ≤ 100) && (inS B.llo B.lhi (-1000) 1000 && decide (B.lhi - B.llo ≤ 24)) && (inS B.clo B.chi 0 20 && decide (B.chi - B.clo ≤ 3)) && vWrs B.rs

set_option maxHeartbeats 400000 in
theorem within_any (lo hi a b : Int) (w : World) : Calls Try.prog 94 #[.agg #[.int .i64 lo, .int .i64 hi], .int .i64 a, .int .i64 b] w (RetB (inS lo hi a b) w) := by
  go_enter Try.func94, Try.ntmps94
  go_wp2
  all_goals go_ret
  all_goals exact RetB.mk (by rw [Bool.eq_iff_iff]; simp [inS]; omega) ((Keeps.refl _).alloc _)
set_option maxHeartbeats 400000 in
theorem wide_any (lo hi : Int) (w : World) (h1 : -100000 ≤ lo) (h2 : lo ≤ 100000) (h3 : -100000 ≤ hi) (h4 : hi ≤ 100000) : Calls Try.prog 95 #[.agg #[.int .i64 lo, .int .i64 hi]] w (RetI (hi - lo) w) := by
  have e : IntKind.i64.wrap (hi - lo) = hi - lo := IntWalk.i64_in _ (by constructor <;> omega)
  go_enter Try.func95, Try.ntmps95
  go_wp2
  go_ret
  exact RetI.mk (by first | rfl | exact e) ((Keeps.refl _).alloc _)
set_option maxHeartbeats 400000 in
theorem validWarmth_any (lo hi : Int) (w : World) : Calls Try.prog 100 #[.agg #[.int .i64 lo, .int .i64 hi]] w (RetB (inS lo hi (-100) 100) w) := by
  have H := Lib.hid (fun w1 => within_any lo hi (-100) 100 w1)
  go_enter Try.func100, Try.ntmps100
  go_wp2_with fail
  refine (H.out _).mono ?_
  rintro e w1 ⟨rfl, k1⟩
  go_wp2_with fail
  go_ret
  exact ⟨rfl, by first | exact k1 | exact ((Keeps.refl _).alloc _).trans k1⟩
end Go.Proofs.Ytidiikmpgpnmpaa
