/-
  WARM: needReading, needOffers.
-/
import Derived.Test.YtidiikmpgpnmpaaA4
namespace Go.Proofs.Ytidiikmpgpnmpaa
open Go.RowKit

theorem needReading_yes (B : Wm) (n : Int) (w : World) (h1 : 0 ≤ n) (h2 : n < B.rs.length) : Calls Try.prog 59 #[B.v, .int .i64 n] w (Ret (.tuple #[]) w) := by
  obtain ⟨mark, llo, lhi, clo, chi, ra, rc, rs⟩ := B
  dsimp only [Wm.v] at *
  go_enter Try.func59, Try.ntmps59
  go_wp2
  all_goals first | (exfalso; omega) | (go_end0; exact ⟨rfl, by first | exact (Keeps.refl _).alloc _ | exact Keeps.refl _⟩)
theorem needReading_no (B : Wm) (n : Int) (w : World) (h : n < 0 ∨ (B.rs.length : Int) ≤ n) : Calls Try.prog 59 #[B.v, .int .i64 n] w (Pan 2 w) := by
  obtain ⟨mark, llo, lhi, clo, chi, ra, rc, rs⟩ := B
  dsimp only [Wm.v] at *
  rcases h with h | h
  all_goals
    go_enter Try.func59, Try.ntmps59
    go_wp2
    all_goals first | (exfalso; omega) | exact ⟨rfl, rfl, by first | exact (Keeps.refl _).alloc _ | exact Keeps.refl _⟩

/-- The slice at a holds these numbers. -/
def Ints (w : World) (a : Option Addr) (xs : List Int) : Prop := xs ≠ [] → ∃ b o, a = some ⟨b, o, none⟩ ∧ ∀ i, i < xs.length → w.cell? ⟨b, o + i, none⟩ = some (.int .i64 (xs[i]?.getD 0))
theorem Ints.keep {w w' : World} {a : Option Addr} {xs : List Int} (h : Ints w a xs) (k : Keeps w w') : Ints w' a xs := by
  intro hx
  obtain ⟨b, o, e, hc⟩ := h hx
  exact ⟨b, o, e, fun i hi => k.cell (hc i hi)⟩
def okOffer (x : Int) : Bool := decide (-100 ≤ x ∧ x ≤ 100)
theorem inS_same (x : Int) : inS x x (-100) 100 = okOffer x := by
  rw [Bool.eq_iff_iff]; simp [inS, okOffer]
set_option maxHeartbeats 800000 in
theorem needOffers_long (a : Option Addr) (cap : Nat) (xs : List Int) (w : World) (hl : 6 < xs.length) (hm : xs.length ≤ maxLen) : Calls Try.prog 80 #[.slice a xs.length cap] w (Pan 3 w) := by
  unfold maxLen at hm
  have hd : decide (6 < xs.length) = true := by simpa using hl
  go_enter Try.func80, Try.ntmps80
  go_wp2
  all_goals first | (exfalso; omega) | exact ⟨rfl, rfl, by first | exact (Keeps.refl _).alloc _ | exact Keeps.refl _⟩
set_option maxHeartbeats 800000 in
theorem needOffers_none (a : Option Addr) (cap : Nat) (w : World) : Calls Try.prog 80 #[.slice a 0 cap] w (Pan 2 w) := by
  go_enter Try.func80, Try.ntmps80
  go_wp2
  all_goals first | (exfalso; omega) | exact ⟨rfl, rfl, by first | exact (Keeps.refl _).alloc _ | exact Keeps.refl _⟩
set_option maxHeartbeats 1600000 in
theorem needOffers_any (a : Option Addr) (cap : Nat) (xs : List Int) (w : World) (hI : Ints w a xs) (h1 : xs ≠ []) (h2 : xs.length ≤ 6) :
    Calls Try.prog 80 #[.slice a xs.length cap] w (if xs.all okOffer then Ret (.tuple #[]) w else Pan 2 w) := by
  have hp := List.length_pos_iff.2 h1
  have hd : decide (6 < xs.length) = false := by simpa using h2
  have hd2 : ((xs.length : Int) == 0) = false := by rw [beq_eq_false_iff_ne]; omega
  have HI := Lib.hid hI
  have NY := Lib.hid (fun x w1 (h : okOffer x = true) => needWarmth_yes x x w1 ((inS_same x).trans h))
  have NN := Lib.hid (fun x w1 (h : okOffer x = false) => needWarmth_no x x w1 ((inS_same x).trans h))
  obtain ⟨t, ht⟩ : ∃ t, xs.all okOffer = t := ⟨_, rfl⟩
  rw [ht]
  have HT := Lib.hid ht
  clear hI h1 ht
  go_enter Try.func80, Try.ntmps80
  go_wp2
  go_loopw [14] (fun i wr => ∃ k : Nat, k ≤ xs.length ∧ i = .int .i64 k ∧ (∀ j, j < k → okOffer (xs[j]?.getD 0) = true) ∧ Keeps w wr) (fun i _ => xs.length - (intOf i).toNat)
  case atStart => exact ⟨0, Nat.zero_le _, rfl, fun j hj => absurd hj (by omega), by first | exact Keeps.refl _ | exact (Keeps.refl _).alloc _⟩
  case round =>
    obtain ⟨k, hk, rfl, hall, hkp⟩ := hrel
    have Hall := Lib.hid hall
    clear hall
    by_cases hlt : k < xs.length
    · obtain ⟨b, o, rfl, hc⟩ := (HI.out.keep hkp) (by intro e; rw [e] at hlt; simp at hlt)
      have c0 := hc k hlt
      obtain ⟨x, hx⟩ : ∃ x, xs[k]?.getD 0 = x := ⟨_, rfl⟩
      rw [hx] at c0
      have lb := lt_of_cell c0
      have Hx := Lib.hid hx
      clear hc hx
      cases hv : okOffer x with
      | true =>
        have N1 := Lib.hid (fun w1 => NY.out x w1 hv)
        have Hv := Lib.hid hv
        clear hv
        go_wp2_with fail
        refine (N1.out _).mono ?_
        rintro e w1 ⟨rfl, k1⟩
        go_wp2_with fail
        go_roundw
        case rel => exact ⟨k + 1, by omega, by go_num, fun j hj => by
          by_cases e : j = k
          · subst e; rw [Hx.out]; exact Hv.out
          · exact Hall.out j (by omega), hkp.trans k1⟩
        case measure => simp [intOf]; omega
      | false =>
        have N1 := Lib.hid (fun w1 => NN.out x w1 hv)
        have hf : t = false := by
          rw [← HT.out, List.all_eq_false]
          refine ⟨x, ?_, by simp [hv]⟩
          rw [← Hx.out, List.getElem?_eq_getElem hlt]
          exact List.getElem_mem hlt
        clear hv
        subst hf
        go_wp2_with fail
        refine (N1.out _).mono ?_
        rintro e w1 ⟨rfl, k1⟩
        exact ⟨rfl, rfl, hkp.trans k1⟩
    · have hf : t = true := by
        rw [← HT.out, List.all_eq_true]
        intro x hx
        obtain ⟨i, hi, rfl⟩ := List.getElem_of_mem hx
        have := Hall.out i (by omega)
        rwa [List.getElem?_eq_getElem hi] at this
      subst hf
      go_wp2
      go_end0
      exact ⟨rfl, hkp⟩
end Go.Proofs.Ytidiikmpgpnmpaa
