/-
  A reading is right of a length; all readings are.
-/
import Derived.Test.YtgbojgachgodgaaWd
namespace Go.Proofs.Ytgbojgachgodgaa
open Go.RowKit

/-- A reading whose colour is its wave: the wave, from which part to which one. -/
abbrev Rg := Int × Int × Int
def rgV (g : Rg) : Value := if g.2.2 < 20 then .iface 137 (.agg #[.int .i64 g.1, .int .i64 g.2.1, .int .i64 g.2.2]) else .iface 141 (.agg #[.int .i64 g.1, .int .i64 g.2.1, .int .i64 g.2.2])
def partI (wv n : Int) : Int := 20 * (n % wv) / wv
def plainB (wv lo hi n : Int) : Bool := decide (lo ≤ partI wv n ∧ partI wv n ≤ hi)
def roundB (wv lo hi n : Int) : Bool := decide (lo ≤ partI wv n ∨ partI wv n + 20 ≤ hi)
def rightB (g : Rg) (n : Int) : Bool := if g.2.2 < 20 then plainB g.1 g.2.1 g.2.2 n else roundB g.1 g.2.1 g.2.2 n

theorem partI_bd {wv n : Int} (h1 : 1 ≤ wv) : 0 ≤ partI wv n ∧ partI wv n ≤ 19 := by
  unfold partI
  have hm0 : 0 ≤ n % wv := Int.emod_nonneg _ (by omega)
  have hm1 : n % wv < wv := Int.emod_lt_of_pos _ (by omega)
  refine ⟨Int.ediv_nonneg (by omega) (by omega), ?_⟩
  have : 20 * (n % wv) / wv < 20 := Int.ediv_lt_of_lt_mul (by omega) (by omega)
  omega

theorem run_part (x y : Int) (w : World) : (Instr.field 110 (.agg #[.int .i64 x, .int .i64 y]) 1).run Try.prog w = .ok (.int .i64 y) w := by kernel_rfl
theorem run_whole (x y : Int) (w : World) : (Instr.field 110 (.agg #[.int .i64 x, .int .i64 y]) 0).run Try.prog w = .ok (.int .i64 x) w := by kernel_rfl

set_option maxHeartbeats 400000 in
theorem plain_right (wv lo hi n : Int) (w : World) (h1 : 1 ≤ wv) (h2 : wv ≤ 60) (h3 : 0 ≤ n) (h4 : n ≤ 2000) :
    Calls Try.prog 129 #[.agg #[.int .i64 wv, .int .i64 lo, .int .i64 hi], .int .i64 n] w (RetB (plainB wv lo hi n) w) := by
  have H := Lib.hid (fun w1 => split_any wv n w1 h1 h2 h3 h4)
  obtain ⟨p, hp⟩ : ∃ p, 20 * (n % wv) / wv = p := ⟨_, rfl⟩
  have hb := partI_bd (n := n) h1
  have Hp := Lib.hid (show partI wv n = p from hp)
  rw [Hp.out] at hb
  rw [hp] at H
  obtain ⟨hb1, hb2⟩ := hb
  clear hp
  have hf := run_part
  go_enter Try.func129, Try.ntmps129
  go_wp2_with fail
  refine (H.out _).mono ?_
  rintro e w1 ⟨rfl, k1⟩
  have hc1 := k1.cells
  go_wp2_with fail
  all_goals go_ret
  all_goals exact RetB.mk (by rw [plainB, Hp.out, Bool.eq_iff_iff]; simp; omega) (((Keeps.refl _).alloc _).trans k1)
set_option maxHeartbeats 400000 in
theorem round_right (wv lo hi n : Int) (w : World) (h1 : 1 ≤ wv) (h2 : wv ≤ 60) (h3 : 0 ≤ n) (h4 : n ≤ 2000) :
    Calls Try.prog 130 #[.agg #[.int .i64 wv, .int .i64 lo, .int .i64 hi], .int .i64 n] w (RetB (roundB wv lo hi n) w) := by
  have H := Lib.hid (fun w1 => split_any wv n w1 h1 h2 h3 h4)
  obtain ⟨p, hp⟩ : ∃ p, 20 * (n % wv) / wv = p := ⟨_, rfl⟩
  have hb := partI_bd (n := n) h1
  have Hp := Lib.hid (show partI wv n = p from hp)
  rw [Hp.out] at hb
  rw [hp] at H
  obtain ⟨hb1, hb2⟩ := hb
  clear hp
  have hf := run_part
  go_enter Try.func130, Try.ntmps130
  go_wp2_with fail
  refine (H.out _).mono ?_
  rintro e w1 ⟨rfl, k1⟩
  have hc1 := k1.cells
  go_wp2_with fail
  all_goals go_ret
  all_goals exact RetB.mk (by rw [roundB, Hp.out, Bool.eq_iff_iff]; simp; omega) (((Keeps.refl _).alloc _).trans k1)

/-- The slice at a holds these readings, an interface value each. -/
def Rgs (w : World) (a : Option Addr) (gs : List Rg) : Prop :=
  gs ≠ [] → ∃ b o, a = some ⟨b, o, none⟩ ∧ ∀ i, i < gs.length → w.cell? ⟨b, o + i, none⟩ = some (rgV (gs[i]?.getD (0, 0, 0)))
theorem Rgs.keep {w w' : World} {a : Option Addr} {xs : List Rg} (h : Rgs w a xs) (k : Keeps w w') : Rgs w' a xs := by
  intro hx
  obtain ⟨b, o, e, hc⟩ := h hx
  exact ⟨b, o, e, fun i hi => k.cell (hc i hi)⟩
theorem meth_plain (v : Value) (w : World) : (method 269 137 v "blockworks/fringe.right").run Try.prog w = .ok (129, v) w := by kernel_rfl
theorem meth_round (v : Value) (w : World) : (method 269 141 v "blockworks/fringe.right").run Try.prog w = .ok (130, v) w := by kernel_rfl
def okG (g : Rg) : Prop := 1 ≤ g.1 ∧ g.1 ≤ 60
theorem all_bad {gs : List Rg} {n : Int} {k : Nat} (h : k < gs.length) (hr : rightB (gs[k]?.getD (0, 0, 0)) n = false) : gs.all (rightB · n) = false := by
  rw [List.all_eq_false]
  refine ⟨gs[k], List.getElem_mem h, ?_⟩
  rw [List.getElem?_eq_getElem h, Option.getD_some] at hr
  simp [hr]
set_option maxHeartbeats 800000 in
theorem allRight_any (a : Option Addr) (cap : Nat) (gs : List Rg) (n : Int) (w : World) (hg : Rgs w a gs) (hl : gs.length ≤ maxLen) (hok : ∀ g ∈ gs, okG g) (h3 : 0 ≤ n) (h4 : n ≤ 2000) :
    Calls Try.prog 111 #[.slice a gs.length cap, .int .i64 n] w (RetB (gs.all (rightB · n)) w) := by
  unfold maxLen at hl
  go_enter Try.func111, Try.ntmps111
  go_wp2
  go_loopw [9] (fun i wr => ∃ k : Nat, k ≤ gs.length ∧ i = .int .i64 k ∧ (∀ j, j < k → rightB (gs[j]?.getD (0, 0, 0)) n = true) ∧ Keeps w wr) (fun i _ => gs.length - (intOf i).toNat)
  case atStart => exact ⟨0, Nat.zero_le _, rfl, fun j hj => absurd hj (by omega), Keeps.refl _⟩
  case round =>
    obtain ⟨k, hk, rfl, hall, hkp⟩ := hrel
    have Hall := Lib.hid hall
    clear hall
    by_cases hlt : k < gs.length
    · obtain ⟨b, o, rfl, hc⟩ := hg.keep hkp (by intro e; subst e; simp at hlt)
      obtain ⟨⟨wv, lo, hi⟩, hr⟩ : ∃ r : Rg, gs[k]?.getD (0, 0, 0) = r := ⟨_, rfl⟩
      have h1 := hc k hlt
      rw [hr] at h1
      obtain ⟨o1, o2⟩ : okG (wv, lo, hi) := hr ▸ (by rw [List.getElem?_eq_getElem hlt]; exact hok _ (List.getElem_mem hlt))
      dsimp only at o1 o2
      by_cases hp : hi < 20
      · rw [rgV, if_pos hp] at h1
        dsimp only at h1
        obtain ⟨v, hv⟩ : ∃ v, plainB wv lo hi n = v := ⟨_, rfl⟩
        have hvr : rightB (wv, lo, hi) n = v := by rw [rightB, if_pos hp]; exact hv
        have HC := Lib.hid (fun w1 => hv ▸ plain_right wv lo hi n w1 o1 o2 h3 h4)
        have Hr := Lib.hid (hr ▸ hvr)
        clear hc hr hg hv hvr hok
        have hcm := meth_plain
        cases v
        · go_wp2_with (go_at_call 129; refine (HC.out _).mono ?_; rintro e w1 ⟨rfl, k1⟩)
          go_ret
          exact RetB.mk (all_bad hlt Hr.out).symm (hkp.trans k1)
        · go_wp2_with (go_at_call 129; refine (HC.out _).mono ?_; rintro e w1 ⟨rfl, k1⟩)
          go_roundw
          case rel => exact ⟨k + 1, by omega, by go_num, fun j hj => by
            by_cases e : j = k
            · subst e; exact Hr.out
            · exact Hall.out j (by omega), hkp.trans k1⟩
          case measure => simp [intOf]; omega
      · rw [rgV, if_neg hp] at h1
        dsimp only at h1
        obtain ⟨v, hv⟩ : ∃ v, roundB wv lo hi n = v := ⟨_, rfl⟩
        have hvr : rightB (wv, lo, hi) n = v := by rw [rightB, if_neg hp]; exact hv
        have HC := Lib.hid (fun w1 => hv ▸ round_right wv lo hi n w1 o1 o2 h3 h4)
        have Hr := Lib.hid (hr ▸ hvr)
        clear hc hr hg hv hvr hok
        have hcm := meth_round
        cases v
        · go_wp2_with (go_at_call 130; refine (HC.out _).mono ?_; rintro e w1 ⟨rfl, k1⟩)
          go_ret
          exact RetB.mk (all_bad hlt Hr.out).symm (hkp.trans k1)
        · go_wp2_with (go_at_call 130; refine (HC.out _).mono ?_; rintro e w1 ⟨rfl, k1⟩)
          go_roundw
          case rel => exact ⟨k + 1, by omega, by go_num, fun j hj => by
            by_cases e : j = k
            · subst e; exact Hr.out
            · exact Hall.out j (by omega), hkp.trans k1⟩
          case measure => simp [intOf]; omega
    · go_wp2
      go_ret
      exact RetB.mk (by
        rw [eq_comm, List.all_eq_true]
        intro g hg
        obtain ⟨i, hi, rfl⟩ := List.getElem_of_mem hg
        have := Hall.out i (by omega)
        simpa [List.getElem?_eq_getElem hi] using this) hkp
end Go.Proofs.Ytgbojgachgodgaa
