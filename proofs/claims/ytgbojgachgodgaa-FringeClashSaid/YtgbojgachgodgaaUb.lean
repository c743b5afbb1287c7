/-
  FringeClash: how many are in a set, by the reference; whether the readings of a set clash, by the law's own inner function.
-/
import Derived.Test.YtgbojgachgodgaaUa
import Derived.Test.YtgbojgachgodgaaZl
import Derived.Test.YtgbojgachgodgaaYi
import Derived.Laws.OwnMore
namespace Go.Proofs.Ytgbojgachgodgaa
open Go.RowKit Go.Shelf

theorem pop_half : ∀ s : Nat, s < 64 → pop s = s % 2 + pop (s / 2) := by decide +kernel
set_option maxHeartbeats 400000 in
theorem refSize_any (s : Nat) (hs : s < 64) (w : World) : Calls Try.prog 37 #[.int .i64 s] w fun e w' => e = .returned (.int .i64 (pop s)) ∧ w = w' := by
  have hp6 := (bits_pop0 s hs).1
  go_enter Try.func37, Try.ntmps37
  go_wp2
  go_loop [0, 3] (fun x n => ∃ a b : Nat, b < 64 ∧ a + pop b = pop s ∧ x = .int .i64 b ∧ n = .int .i64 a) (fun x _ => (intOf x).toNat)
  case atStart => exact ⟨0, s, hs, by omega, rfl, rfl⟩
  case round =>
    obtain ⟨a, b, hb, hab, rfl, rfl⟩ := hrel
    by_cases hlt : 0 < b
    · have hh := pop_half b hb
      have HH := Lib.hid (show a + b % 2 + pop (b / 2) = pop s by omega)
      have ha : a ≤ 6 := by omega
      clear hab hh
      go_wp2
      go_round
      case rel => exact ⟨a + b % 2, b / 2, by omega, HH.out, by go_num, by go_num⟩
      case measure => simp [intOf]; omega
    · have HH := Lib.hid (show (a : Int) = (pop s : Nat) by
        obtain rfl : b = 0 := by omega
        have : pop 0 = 0 := rfl
        omega)
      have hz : decide (0 < b) = false := by simpa using hlt
      clear hab hlt
      go_wp2
      go_ret
      exact ⟨by rw [HH.out]; rfl, rfl⟩

/-- The first k readings that are in a set. -/
def selR (rs : List Rd) (s k : Nat) : List Rd := ((List.range k).filter (hasB s)).map (fun i => rs[i]?.getD (0, 0, 0))
theorem selR_in {rs : List Rd} {s k : Nat} (h : hasB s k = true) : selR rs s (k + 1) = selR rs s k ++ [rs[k]?.getD (0, 0, 0)] := by
  simp [selR, List.range_succ, List.filter_append, h]
theorem selR_out {rs : List Rd} {s k : Nat} (h : hasB s k = false) : selR rs s (k + 1) = selR rs s k := by
  simp [selR, List.range_succ, List.filter_append, h]
theorem selR_len (rs : List Rd) (s k : Nat) : (selR rs s k).length ≤ k := by
  have := List.length_filter_le (hasB s) (List.range k)
  simpa [selR] using this
/-- The fringe with the readings of a set alone. -/
def Fr.sub (F : Fr) (s : Nat) (ra : Option Addr) (rc : Nat) : Fr := ⟨F.wa, F.wc, F.ws, F.lo, F.hi, ra, rc, selR F.rs s F.rs.length⟩
theorem sub_ok (F : Fr) (hok : F.ok = true) (s : Nat) (ra : Option Addr) (rc : Nat) : (F.sub s ra rc).ok = true := by
  have hl := selR_len F.rs s F.rs.length
  have hl6 : F.rs.length ≤ 6 := F.rl_in hok
  simp only [Fr.ok, vFringe, vReads, Bool.and_eq_true, decide_eq_true_eq, Fr.sub] at hok ⊢
  refine ⟨hok.1, decide_eq_true (Nat.le_trans hl hl6), List.all_eq_true.2 fun r hr => ?_⟩
  obtain ⟨i, hi, rfl⟩ := List.mem_map.1 hr
  rw [List.mem_filter, List.mem_range] at hi
  rw [List.getElem?_eq_getElem hi.1, Option.getD_some]
  exact List.all_eq_true.1 hok.2.2 _ (List.getElem_mem hi.1)
theorem sub_gs (F : Fr) (hok : F.ok = true) {s : Nat} (hs : s < 2 ^ F.gs.length) (ra : Option Addr) (rc : Nat) : (F.sub s ra rc).gs = wo F.gs (cm (2 ^ F.gs.length - 1) s) := by
  have hl := F.gl_in hok
  have h64 := pow_le F hok
  rw [wo_eq]
  have e : (F.sub s ra rc).gs = ((List.range F.gs.length).filter (hasB s)).map (fun i => rgOf F.ws (F.rs[i]?.getD (0, 0, 0))) := by
    simp [Fr.gs, Fr.sub, selR, List.map_map, Function.comp_def]
  rw [e, List.filter_congr (q := fun i => !hasB (cm (2 ^ F.gs.length - 1) s) i) (fun i hi => by
    rw [List.mem_range] at hi
    rw [bits_cm _ (by omega) s (by omega) hs i (by omega) hi, Bool.not_not])]
  apply List.map_congr_left
  intro i hi
  have hi' := List.mem_range.1 (List.mem_filter.1 hi).1
  have hi2 : i < F.rs.length := by simpa [Fr.gs] using hi'
  simp [Fr.gs, List.getElem?_eq_getElem hi2]
/-- Do the readings of a set clash? -/
def Fr.clB (F : Fr) (s : Nat) : Bool := !F.agreeW (cm (2 ^ F.gs.length - 1) s)
theorem sub_count (F : Fr) (hok : F.ok = true) {s : Nat} (hs : s < 2 ^ F.gs.length) (ra : Option Addr) (rc : Nat) : countR (F.sub s ra rc) = ((((F.sub s ra rc).truths.length : Nat) : Int), 0) ∧ ((F.sub s ra rc).truths.length = 0 ↔ F.clB s = true) ∧ (F.sub s ra rc).truths.length ≤ 401 := by
  refine ⟨by simp [countR, sub_ok F hok s ra rc], ?_, (F.sub s ra rc).truths_len (sub_ok F hok s ra rc)⟩
  unfold Fr.clB Fr.agreeW agreeB
  rw [← sub_gs F hok hs ra rc, Bool.not_not, List.isEmpty_iff, List.length_eq_zero_iff]
  rfl
end Go.Proofs.Ytgbojgachgodgaa
