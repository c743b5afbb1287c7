/-
  The document's own package, of WARM: the small functions on arguments; hull.
-/
import Derived.Test.YtmhpgjlegajpeaaI1
import Derived.Test.YtmhpgjlegajpeaaD2
namespace Go.Proofs.Ytmhpgjlegajpeaa
open Go.RowKit

set_option maxHeartbeats 800000 in
theorem refHas_any (s n : Nat) (hs : s < 1048576) (hn : n ≤ 20) (v : Bool) (hv : hasB s n = v) (w : World) : Calls Try.prog 109 #[.int .i64 s, .int .i64 n] w fun e w' => e = .returned (.bool v) ∧ w = w' := by
  have H1 := Lib.hid (fun w => power_any n hn w)
  obtain ⟨p1, p2⟩ := pow_le20 hn
  have HV := Lib.hid (show ((s : Int) / ((2 ^ n : Nat) : Int) % 2 == 1) = v by
    rw [← hv, hasB, Nat.shiftRight_eq_div_pow, Bool.eq_iff_iff, beq_iff_eq, beq_iff_eq]
    constructor <;> intro h <;> omega)
  obtain ⟨P, hP⟩ : ∃ P, 2 ^ n = P := ⟨_, rfl⟩
  rw [hP] at H1 p1 p2 HV
  clear hP hv
  go_enter Try.func109, Try.ntmps109
  go_wp2_with fail
  refine (H1.out _).mono ?_
  rintro e w1 ⟨rfl, rfl⟩
  have hP0 : ¬ ((P : Int) = 0) := by omega
  have q0 : 0 ≤ (s : Int) / (P : Int) := Int.ediv_nonneg (by omega) (by omega)
  have q1 : (s : Int) / (P : Int) ≤ 1048576 := Int.le_trans (Int.ediv_le_self _ (by omega)) (by omega)
  go_wp2_with fail
  go_ret
  exact ⟨by rw [← HV.out]; rfl, rfl⟩
set_option maxHeartbeats 400000 in
theorem refReading_any (B : Wm) (n : Int) (w : World) (hl : B.rs.length ≤ maxLen) : Calls Try.prog 62 #[B.v, .int .i64 n] w (RetB (decide (0 ≤ n ∧ n < B.rs.length)) w) := by
  unfold maxLen at hl
  have IN := Lib.hid (fun w1 => refIn_any n 0 ((B.rs.length : Int) - 1) w1)
  have BX := (Wm.Box.new B w).c5
  have k0 := (Keeps.refl w).alloc (.cells #[.int .i64 B.mark, .int .i64 B.llo, .int .i64 B.lhi, .int .i64 B.clo, .int .i64 B.chi, .slice B.ra B.rs.length B.rc] 26)
  have e : IntKind.i64.wrap ((B.rs.length : Int) - 1) = (B.rs.length : Int) - 1 := IntWalk.i64_in _ (by constructor <;> omega)
  obtain ⟨mark, llo, lhi, clo, chi, ra, rc, rs⟩ := B
  dsimp only [Wm.v] at *
  go_enter Try.func62, Try.ntmps62
  go_wp2_with fail
  refine (IN.out _).mono ?_
  rintro e w1 ⟨rfl, rfl⟩
  go_wp2_with fail
  go_ret
  exact RetB.mk (by rw [Bool.eq_iff_iff]; simp; omega) k0
set_option maxHeartbeats 400000 in
theorem refWarmth_any (lo hi : Int) (w : World) : Calls Try.prog 67 #[.agg #[.int .i64 lo, .int .i64 hi]] w (RetB (inS lo hi (-100) 100) w) := by
  have SP := Lib.hid (fun w1 => refSpan_any lo hi (-100) 100 200 w1 (by omega) (by omega))
  have hb : spB lo hi (-100) 100 200 = inS lo hi (-100) 100 := by
    rw [Bool.eq_iff_iff]
    simp only [spB, inS, Bool.and_eq_true, decide_eq_true_eq]
    omega
  rw [hb] at SP
  have k0 := (Keeps.refl w).alloc (.cells #[.int .i64 lo, .int .i64 hi] 23)
  clear hb
  go_enter Try.func67, Try.ntmps67
  go_wp2_with fail
  refine (SP.out _).mono ?_
  rintro e w1 ⟨rfl, k1⟩
  go_wp2_with fail
  go_ret
  exact RetB.mk rfl (k0.trans k1)
theorem okOffer_all {xs : List Int} : (decide (xs ≠ []) && xs.all okOffer) = decide (xs ≠ [] ∧ xs.all okOffer = true) := by
  cases h : xs.all okOffer <;> simp
set_option maxHeartbeats 800000 in
theorem refOffers_any (a : Option Addr) (cap : Nat) (xs : List Int) (w : World) (hX : Ints w a xs) (hl : xs.length ≤ maxLen) : Calls Try.prog 84 #[.slice a xs.length cap] w fun e w' => e = .returned (.bool (decide (xs ≠ [] ∧ xs.all okOffer = true))) ∧ w = w' := by
  unfold maxLen at hl
  have IN := Lib.hid (fun x w1 => refIn_any x (-100) 100 w1)
  have HX := Lib.hid hX
  obtain ⟨v, hv⟩ : ∃ v, decide (xs ≠ [] ∧ xs.all okOffer = true) = v := ⟨_, rfl⟩
  rw [hv]
  have HV := Lib.hid hv
  clear hX hv
  go_enter Try.func84, Try.ntmps84
  go_wp2
  go_loop [3] (fun i => ∃ k : Nat, k ≤ xs.length ∧ i = .int .i64 k ∧ (xs.take k).all okOffer = true) (fun i => xs.length - (intOf i).toNat)
  case atStart => exact ⟨0, Nat.zero_le _, rfl, rfl⟩
  case round =>
    obtain ⟨k, hk, rfl, hok⟩ := hrel
    have HOK := Lib.hid hok
    clear hok
    by_cases hlt : k < xs.length
    · obtain ⟨b, o, rfl, hcs⟩ := HX.out (by intro e; rw [e] at hlt; simp at hlt)
      have h1 := hcs k hlt
      have hy : xs[k]?.getD 0 = xs[k]'hlt := by rw [List.getElem?_eq_getElem hlt, Option.getD_some]
      have HT := Lib.hid (show xs.take (k + 1) = xs.take k ++ [xs[k]'hlt] from by rw [List.take_add_one, List.getElem?_eq_getElem hlt]; rfl)
      have HM := Lib.hid (List.getElem_mem hlt)
      rw [hy] at h1
      obtain ⟨y, hy⟩ : ∃ y, xs[k]'hlt = y := ⟨_, rfl⟩
      rw [hy] at h1 HT HM
      have hlb := lt_of_cell h1
      clear hcs hy
      by_cases hok : -100 ≤ y ∧ y ≤ 100
      · have IY := Lib.hid (fun w1 => show Calls Try.prog 73 #[.int .i64 y, .int .i64 (-100), .int .i64 100] w1 fun e w' => e = .returned (.bool true) ∧ w1 = w' from by have := IN.out y w1; rwa [decide_eq_true hok] at this)
        have hz := HOK.out
        have HZ := Lib.hid (show (xs.take (k + 1)).all okOffer = true from by rw [HT.out, List.all_append, hz]; simp [okOffer]; exact hok)
        clear hz
        go_wp2_with fail
        refine (IY.out _).mono ?_
        rintro e w1 ⟨rfl, rfl⟩
        go_wp2_with fail
        go_round
        case rel => exact ⟨k + 1, by omega, by go_num, HZ.out⟩
        case measure => simp [intOf]; omega
      · have IY := Lib.hid (fun w1 => show Calls Try.prog 73 #[.int .i64 y, .int .i64 (-100), .int .i64 100] w1 fun e w' => e = .returned (.bool false) ∧ w1 = w' from by have := IN.out y w1; rwa [decide_eq_false hok] at this)
        have HF := Lib.hid (show false = v from by
          symm
          rw [← HV.out, decide_eq_false_iff_not]
          rintro ⟨_, h⟩
          have := List.all_eq_true.1 h y HM.out
          simp only [okOffer, decide_eq_true_eq] at this
          exact hok this)
        clear hok
        go_wp2_with fail
        refine (IY.out _).mono ?_
        rintro e w1 ⟨rfl, rfl⟩
        go_wp2_with fail
        go_ret
        exact ⟨congrArg (fun b => Ending.returned (Value.bool b)) HF.out, rfl⟩
    · obtain rfl : k = xs.length := by omega
      have HF := Lib.hid (show decide (0 < xs.length) = v from by
        have h := HOK.out
        rw [List.take_length] at h
        rw [← HV.out, h, Bool.eq_iff_iff, decide_eq_true_eq, decide_eq_true_eq]
        constructor
        · intro h2
          exact ⟨by intro e; rw [e] at h2; simp at h2, rfl⟩
        · rintro ⟨h2, _⟩
          have := List.length_pos_iff.2 h2
          omega)
      go_wp2
      go_ret
      exact ⟨congrArg (fun b => Ending.returned (Value.bool b)) HF.out, rfl⟩
end Go.Proofs.Ytmhpgjlegajpeaa
