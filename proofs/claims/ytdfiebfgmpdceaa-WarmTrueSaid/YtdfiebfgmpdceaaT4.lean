/-
  WarmTrue: what the program tells of a block with right readings.
-/
import Derived.Test.YtdfiebfgmpdceaaT3
import Derived.Test.YtdfiebfgmpdceaaE2
namespace Go.Proofs.Ytdfiebfgmpdceaa
open Go.RowKit

/-- The block with right readings, as a value. -/
def trV (B : Wm) (ra : Option Addr) (n rc : Nat) : Value := .agg #[.int .i64 B.mark, .int .i64 B.llo, .int .i64 B.lhi, .int .i64 B.clo, .int .i64 B.chi, .slice ra n rc]
theorem trB_v (B : Wm) (l c : Int) (ps : List (Wr × Int)) (ra : Option Addr) (rc : Nat) : (trB B l c ps ra rc).v = trV B ra ps.length rc := by
  unfold Wm.v trB trV
  dsimp only
  rw [List.length_map]
/-- What the law knows of a block with right readings. -/
structure Trl (B : Wm) (l c : Int) (ps : List (Wr × Int)) (ra : Option Addr) (rc : Nat) (w : World) : Prop where
  hl : B.llo ≤ l ∧ l ≤ B.lhi
  hc : B.clo ≤ c ∧ c ≤ B.chi
  hps : ps.map (·.1) = B.rs
  rt : Rts ps
  hin : (trB B l c ps ra rc).In w
theorem truly_is (B : Wm) (hok : B.ok = true) (a : Option Addr) (cap : Nat) (xs : List Int) (w : World) (hI : B.In w) (hU : U16s w a xs) (hl : xs.length ≤ maxLen) :
    Calls Try.prog 32 #[B.v, .slice a xs.length cap] w fun e w' => ∃ l c ps ra rc ta tc, e = .returned (.tuple #[trV B ra ps.length rc, .int .i64 l, .int .i64 c, .slice ta ps.length tc]) ∧ Trl B l c ps ra rc w' ∧ Ints w' ta (ps.map (·.2)) ∧ Keeps w w' := by
  refine (truly_any B hok a cap xs w hI hU hl).mono ?_
  rintro e w' ⟨l, c, ps, ra, rc, ta, tc, rfl, h1, h2, h3, h4, h5, h6, h7⟩
  exact ⟨l, c, ps, ra, rc, ta, tc, by rw [trB_v], ⟨h1, h2, h3, h4, h5⟩, h6, h7⟩
section
variable {B : Wm} (hok : B.ok = true) (l c : Int) (ps : List (Wr × Int)) (ra : Option Addr) (rc : Nat) (w : World) (h : Trl B l c ps ra rc w)
include hok h
theorem true_len : ∃ u v, (u ≤ l ∧ l ≤ v) ∧ ∀ w1, Keeps w w1 → Calls Try.prog 15 #[trV B ra ps.length rc] w1 (Ret (.tuple #[.agg #[.int .i64 u, .int .i64 v], .int .i64 0]) w1) := by
  obtain ⟨u, v, e, h1, h2⟩ := trB_len hok h.hps h.rt h.hl h.hc ra rc
  refine ⟨u, v, ⟨h1, h2⟩, fun w1 k => ?_⟩
  have H := Length_any _ w1 (h.hin.keep k)
  rw [e, trB_v] at H
  exact H
theorem true_coeff : ∃ u v, (u ≤ c ∧ c ≤ v) ∧ ∀ w1, Keeps w w1 → Calls Try.prog 17 #[trV B ra ps.length rc] w1 (Ret (.tuple #[.agg #[.int .i64 u, .int .i64 v], .int .i64 0]) w1) := by
  obtain ⟨u, v, e, h1, h2⟩ := trB_coeff hok h.hps h.rt h.hl h.hc ra rc
  refine ⟨u, v, ⟨h1, h2⟩, fun w1 k => ?_⟩
  have H := Coeff_any _ w1 (h.hin.keep k)
  rw [e, trB_v] at H
  exact H
theorem true_count : ∃ n : Int, 1 ≤ n ∧ ∀ w1, Keeps w w1 → Calls Try.prog 25 #[trV B ra ps.length rc] w1 (Ret (.tuple #[.int .i64 n, .int .i64 0]) w1) := by
  obtain ⟨n, e, h1⟩ := trB_count hok h.hps h.rt h.hl h.hc ra rc
  refine ⟨n, h1, fun w1 k => ?_⟩
  have H := Count_any _ w1 (h.hin.keep k)
  rw [e, trB_v] at H
  exact H
theorem true_clash : ∀ w1, Keeps w w1 → Calls Try.prog 29 #[trV B ra ps.length rc] w1 (Ret (.tuple #[.int .i64 0, .int .i64 4]) w1) := by
  intro w1 k
  have H := Clash_any _ w1 (h.hin.keep k)
  have e : (trB B l c ps ra rc).clashA = (0, 4) := by
    have hf : (trB B l c ps ra rc).few = none := List.find?_eq_none.2 (fun y _ => by
      have ht := trB_some hok h.hps h.rt h.hl h.hc ra rc
      cases hc : (trB B l c ps ra rc).clB y with
      | false => simp
      | true =>
        have hT : (trB B l c ps ra rc).truths ≠ [] := fun e => by rw [e] at ht; cases ht
        obtain ⟨p, hp⟩ := List.exists_mem_of_ne_nil _ hT
        obtain ⟨p1, p2⟩ := List.mem_filter.1 hp
        have h2 : p ∈ (trB B l c ps ra rc).leftBy (wo (trB B l c ps ra rc).rs y) := List.mem_filter.2 ⟨p1, List.all_eq_true.2 fun r hr => List.all_eq_true.1 p2 r (wo_sub _ y r hr)⟩
        rw [Wm.clB, List.isEmpty_iff] at hc
        rw [hc] at h2
        cases h2)
    unfold Wm.clashA
    rw [if_pos (trB_ok hok h.hps h.rt h.hl h.hc ra rc), hf]
  rw [e, trB_v] at H
  exact H
theorem true_held (k : Nat) (hk : k < ps.length) : ∃ u v, (u ≤ (ps[k]).2 ∧ (ps[k]).2 ≤ v) ∧ ∀ w1, Keeps w w1 → Calls Try.prog 19 #[trV B ra ps.length rc, .int .i64 k] w1 (Ret (.tuple #[.agg #[.int .i64 u, .int .i64 v], .int .i64 0]) w1) := by
  obtain ⟨u, v, e, h1, h2⟩ := trB_held hok h.hps h.rt h.hl h.hc ra rc hk
  refine ⟨u, v, ⟨h1, h2⟩, fun w1 kk => ?_⟩
  have H := Held_any _ k w1 (h.hin.keep kk)
  rw [e, trB_v] at H
  exact H
theorem true_shows (lo hi : Int) (h0 : -100 ≤ lo) (h1 : lo ≤ hi) (h2 : hi ≤ 100) : ∃ u v, (u ≤ shI B.mark l c lo ∧ shI B.mark l c lo ≤ v) ∧ ∀ w1, Keeps w w1 → Calls Try.prog 21 #[trV B ra ps.length rc, .agg #[.int .i64 lo, .int .i64 hi]] w1 (Ret (.tuple #[.agg #[.int .i64 u, .int .i64 v], .int .i64 0]) w1) := by
  obtain ⟨u, v, e, h3, h4⟩ := trB_shows hok h.hps h.rt h.hl h.hc ra rc h0 h1 h2
  refine ⟨u, v, ⟨h3, h4⟩, fun w1 k => ?_⟩
  have H := Shows_any _ lo hi w1 (h.hin.keep k)
  rw [e, trB_v] at H
  exact H
theorem true_room (off : Int) (h0 : 0 ≤ off) (h1 : off ≤ 30000) : ∃ n : Int, 0 ≤ n ∧ n ≤ 100 ∧ (∀ k, -n ≤ k → k ≤ n → -off ≤ shI B.mark l c k - l ∧ shI B.mark l c k - l ≤ off) ∧ ∀ w1, Keeps w w1 → Calls Try.prog 23 #[trV B ra ps.length rc, .int .i64 off] w1 (Ret (.tuple #[.int .i64 n, .int .i64 0]) w1) := by
  obtain ⟨n, e, h2, h3, h4⟩ := trB_room hok h.hps h.rt h.hl h.hc ra rc h0 h1
  refine ⟨n, h2, h3, h4, fun w1 k => ?_⟩
  have H := Room_any _ off w1 (h.hin.keep k)
  rw [e, trB_v] at H
  exact H
end
end Go.Proofs.Ytdfiebfgmpdceaa
