/-
  THE CHECKS OF A FRINGE: validWaves, validLength, validPart, validReads, each by its contract, in whatever world.
-/
import Derived.Test.YtoidnbpbeblokaaRows
import Derived.Test.YtoidnbpbeblokaaK
import Derived.Test.YtoidnbpbeblokaaS
import Derived.WalkKit
import Derived.OwnWalk
import Derived.RegionTactic
import Derived.ChangeAlike
import Derived.Deep.QuietTactic
import Derived.BigQuiet
import Derived.BigGuardPart
import Derived.WalkLawsBesides
import Derived.Outline
namespace Go.Proofs.Ytoidnbpbeblokaa
open Go.RowKit

/-- The slice at a holds these ints. -/
def Ints (w : World) (a : Option Addr) (xs : List Int) : Prop :=
  xs ≠ [] → ∃ b o, a = some ⟨b, o, none⟩ ∧ ∀ i, i < xs.length → w.cell? ⟨b, o + i, none⟩ = some (.int .i64 (xs[i]?.getD 0))
theorem Ints.lt {w : World} {b o : Nat} {xs : List Int} (h : Ints w (some ⟨b, o, none⟩) xs) (hx : xs ≠ []) : b < w.heap.size := by
  obtain ⟨b', o', e, hc⟩ := h hx
  cases e
  exact lt_of_cell (hc 0 (List.length_pos_iff.2 hx))
theorem Ints.keep {w w' : World} {a : Option Addr} {xs : List Int} (h : Ints w a xs) (k : Keeps w w') : Ints w' a xs := by
  intro hx
  obtain ⟨b, o, e, hc⟩ := h hx
  exact ⟨b, o, e, fun i hi => (k.cells.1 b (o + i) (lt_of_cell (hc i hi))).trans (hc i hi)⟩
/-- The slice at a holds these readings, three cells each. -/
def Rds (w : World) (a : Option Addr) (rs : List Rd) : Prop :=
  rs ≠ [] → ∃ b o, a = some ⟨b, o, none⟩ ∧ ∀ i, i < rs.length → w.cell? ⟨b, o + i * 3, none⟩ = some (.int .i64 (rs[i]?.getD (0, 0, 0)).1) ∧
    w.cell? ⟨b, o + i * 3 + 1, none⟩ = some (.int .i64 (rs[i]?.getD (0, 0, 0)).2.1) ∧ w.cell? ⟨b, o + i * 3 + 2, none⟩ = some (.int .i64 (rs[i]?.getD (0, 0, 0)).2.2)
theorem Rds.keep {w w' : World} {a : Option Addr} {xs : List Rd} (h : Rds w a xs) (k : Keeps w w') : Rds w' a xs := by
  intro hx
  obtain ⟨b, o, e, hc⟩ := h hx
  exact ⟨b, o, e, fun i hi => ⟨(k.cells.1 b _ (lt_of_cell (hc i hi).1)).trans (hc i hi).1, (k.cells.1 b _ (lt_of_cell (hc i hi).2.1)).trans (hc i hi).2.1, (k.cells.1 b _ (lt_of_cell (hc i hi).2.2)).trans (hc i hi).2.2⟩⟩

set_option maxHeartbeats 400000 in
theorem validLength_any (lo hi : Int) (w : World) :
    Calls Try.prog 91 #[.agg #[.int .i64 lo, .int .i64 hi]] w (RetB (vLen lo hi) w) := by
  go_enter Try.func91, Try.ntmps91
  go_wp2
  all_goals go_ret
  all_goals exact RetB.mk (by rw [Bool.eq_iff_iff]; simp [vLen]; omega) ((Keeps.refl _).alloc _)

set_option maxHeartbeats 400000 in
theorem validPart_any (lo hi : Int) (w : World) :
    Calls Try.prog 109 #[.agg #[.int .i64 lo, .int .i64 hi]] w (RetB (vPart lo hi) w) := by
  go_enter Try.func109, Try.ntmps109
  go_wp2
  all_goals go_ret
  all_goals exact RetB.mk (by rw [Bool.eq_iff_iff]; simp [vPart]; omega) ((Keeps.refl _).alloc _)

set_option maxHeartbeats 400000 in
theorem validWaves_any (a : Option Addr) (cap : Nat) (xs : List Int) (w : World) (hx : Ints w a xs) (hl : xs.length ≤ maxLen) :
    Calls Try.prog 90 #[.slice a xs.length cap] w (RetB (vWaves xs) w) := by
  unfold maxLen at hl
  by_cases h : 1 ≤ xs.length ∧ xs.length ≤ 4
  · obtain ⟨h1, h2⟩ := h
    obtain ⟨b, o, rfl, hc⟩ := hx (by intro e; subst e; simp at h1)
    go_enter Try.func90, Try.ntmps90
    go_wp2
    go_loop [15] (fun i => ∃ k : Nat, k ≤ xs.length ∧ i = .int .i64 k ∧ ∀ j, j < k → 2 ≤ xs[j]?.getD 0 ∧ xs[j]?.getD 0 ≤ 60) (fun i => xs.length - (intOf i).toNat)
    case atStart => exact ⟨0, Nat.zero_le _, rfl, fun j hj => absurd hj (by omega)⟩
    case round =>
      obtain ⟨k, hk, rfl, hall⟩ := hrel
      have Hall := Lib.hid hall
      clear hall
      by_cases hlt : k < xs.length
      · obtain ⟨x, hx⟩ : ∃ x, xs[k]?.getD 0 = x := ⟨_, rfl⟩
        have hcell := hc k hlt
        rw [hx] at hcell
        have Hx := Lib.hid hx
        clear hc hx
        go_wp2
        · go_ret
          exact RetB.mk (vWaves_bad hlt (by rw [Hx.out]; omega)).symm (Keeps.refl _)
        · go_ret
          exact RetB.mk (vWaves_bad hlt (by rw [Hx.out]; omega)).symm (Keeps.refl _)
        · go_round
          case rel => exact ⟨k + 1, by omega, by go_num, fun j hj => by
            by_cases e : j = k
            · subst e; rw [Hx.out]; omega
            · exact Hall.out j (by omega)⟩
          case measure => simp [intOf]; omega
      · go_wp2
        go_ret
        exact RetB.mk (vWaves_yes h1 h2 (fun i hi => Hall.out i (by omega))).symm (Keeps.refl _)
  · go_enter Try.func90, Try.ntmps90
    have h' : xs.length < 1 ∨ 4 < xs.length := by omega
    rcases h' with h' | h'
    all_goals
      go_wp2
      all_goals (go_ret; exact RetB.mk (vWaves_no (by omega)).symm (Keeps.refl _))

theorem rd_bad {n c x y : Int} (h : c < 0 ∨ n ≤ c ∨ vPart x y = false) : vRead n (c, x, y) = false := by
  rcases h with h | h | h
  · have : ¬ (0 ≤ c ∧ c < n) := by omega
    simp [vRead, this]
  · have : ¬ (0 ≤ c ∧ c < n) := by omega
    simp [vRead, this]
  · simp [vRead, h]
theorem rd_ok {n c x y : Int} (h1 : 0 ≤ c) (h2 : c < n) (h : vPart x y = true) : vRead n (c, x, y) = true := by
  simp [vRead, h, h1, h2]
set_option maxHeartbeats 800000 in
theorem validReads_any (a : Option Addr) (cap : Nat) (rs : List Rd) (n : Int) (w : World) (hx : Rds w a rs) (hl : rs.length ≤ maxLen) :
    Calls Try.prog 92 #[.slice a rs.length cap, .int .i64 n] w (RetB (vReads rs n) w) := by
  unfold maxLen at hl
  by_cases h : rs.length ≤ 6
  · go_enter Try.func92, Try.ntmps92
    go_wp2
    go_loopw [12] (fun i wr => ∃ k : Nat, k ≤ rs.length ∧ i = .int .i64 k ∧ (∀ j, j < k → vRead n (rs[j]?.getD (0, 0, 0)) = true) ∧ Keeps w wr) (fun i _ => rs.length - (intOf i).toNat)
    case atStart => exact ⟨0, Nat.zero_le _, rfl, fun j hj => absurd hj (by omega), Keeps.refl _⟩
    case round =>
      obtain ⟨k, hk, rfl, hall, hkp⟩ := hrel
      have Hall := Lib.hid hall
      clear hall
      by_cases hlt : k < rs.length
      · obtain ⟨b, o, rfl, hc⟩ := hx.keep hkp (by intro e; subst e; simp at hlt)
        obtain ⟨⟨c, x, y⟩, hr⟩ : ∃ r : Rd, rs[k]?.getD (0, 0, 0) = r := ⟨_, rfl⟩
        obtain ⟨h1, h2, h3⟩ := hc k hlt
        rw [hr] at h1 h2 h3
        dsimp only at h1 h2 h3
        have Hr := Lib.hid hr
        obtain ⟨vp, hvp⟩ : ∃ vp, vPart x y = vp := ⟨_, rfl⟩
        have hcall : ∀ w, Calls Try.prog 109 #[.agg #[.int .i64 x, .int .i64 y]] w (RetB vp w) := fun w => hvp ▸ validPart_any x y w
        have Hp := Lib.hid hvp
        have Hc := Lib.hid hcall
        have hb := lt_of_cell h1
        clear hc hr hvp hcall hx
        cases vp
        all_goals go_wp2_with (go_at_call 109; refine (Hc.out _).mono ?_; rintro e w' ⟨rfl, hk1⟩)
        · go_ret
          exact RetB.mk (vReads_bad hlt (by rw [Hr.out]; exact rd_bad (.inl (by omega)))).symm (hkp.alloc _)
        · go_ret
          exact RetB.mk (vReads_bad hlt (by rw [Hr.out]; exact rd_bad (.inr (.inl (by omega))))).symm (hkp.alloc _)
        · go_ret
          exact RetB.mk (vReads_bad hlt (by rw [Hr.out]; exact rd_bad (.inr (.inr Hp.out)))).symm ((hkp.alloc _).trans hk1)
        · go_ret
          exact RetB.mk (vReads_bad hlt (by rw [Hr.out]; exact rd_bad (.inl (by omega)))).symm (hkp.alloc _)
        · go_ret
          exact RetB.mk (vReads_bad hlt (by rw [Hr.out]; exact rd_bad (.inr (.inl (by omega))))).symm (hkp.alloc _)
        · have hr1 : vRead n (c, x, y) = true := rd_ok (by omega) (by omega) Hp.out
          go_roundw
          case rel => exact ⟨k + 1, by omega, by go_num, fun j hj => by
            by_cases e : j = k
            · subst e; rw [Hr.out]; exact hr1
            · exact Hall.out j (by omega), (hkp.alloc _).trans hk1⟩
          case measure => simp [intOf]; omega
      · go_wp2
        go_ret
        exact RetB.mk (vReads_yes h (fun i hi => Hall.out i (by omega))).symm hkp
  · go_enter Try.func92, Try.ntmps92
    go_wp2
    all_goals (go_ret; exact RetB.mk (vReads_no (by omega)).symm (Keeps.refl _))
end Go.Proofs.Ytoidnbpbeblokaa
