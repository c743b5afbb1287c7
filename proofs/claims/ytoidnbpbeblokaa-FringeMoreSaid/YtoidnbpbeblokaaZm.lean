/-
  THE PERIOD: the least common multiple; what Part answers, by cases.
-/
import Derived.Test.YtoidnbpbeblokaaWd
import Derived.Test.YtoidnbpbeblokaaWo
namespace Go.Proofs.Ytoidnbpbeblokaa
open Go.RowKit

theorem fold_lcm (xs : List Int) : ∀ a : Nat, a ∣ xs.foldl (fun a x => Nat.lcm a x.toNat) a ∧ (∀ x ∈ xs, x.toNat ∣ xs.foldl (fun a x => Nat.lcm a x.toNat) a) ∧ ∀ m, a ∣ m → (∀ x ∈ xs, x.toNat ∣ m) → xs.foldl (fun a x => Nat.lcm a x.toNat) a ∣ m := by
  induction xs with
  | nil => intro a; exact ⟨Nat.dvd_refl _, fun x hx => absurd hx List.not_mem_nil, fun m h _ => h⟩
  | cons y ys ih =>
    intro a
    obtain ⟨h1, h2, h3⟩ := ih (Nat.lcm a y.toNat)
    refine ⟨Nat.dvd_trans (Nat.dvd_lcm_left _ _) h1, fun x hx => ?_, fun m hm hall => h3 m (Nat.lcm_dvd hm (hall y List.mem_cons_self)) (fun x hx => hall x (List.mem_cons_of_mem _ hx))⟩
    rcases List.mem_cons.1 hx with rfl | hx
    · exact Nat.dvd_trans (Nat.dvd_lcm_right _ _) h1
    · exact h2 x hx
theorem period_dvd {ws : List Int} {k : Nat} (hk : k < ws.length) : (ws[k]?.getD 0).toNat ∣ period ws := by
  have := (fold_lcm ws 1).2.1 ws[k] (List.getElem_mem hk)
  simpa [period, List.getElem?_eq_getElem hk] using this
theorem period_least {ws : List Int} {m : Nat} (h : ∀ k, k < ws.length → (ws[k]?.getD 0).toNat ∣ m) : period ws ∣ m := by
  refine (fold_lcm ws 1).2.2 m (Nat.one_dvd _) (fun x hx => ?_)
  obtain ⟨k, hk, rfl⟩ := List.getElem_of_mem hx
  simpa [List.getElem?_eq_getElem hk] using h k hk
theorem period_bd (F : Fr) (h : F.ok = true) : 1 ≤ period F.ws ∧ period F.ws ≤ 12960000 := by
  have h4 : F.ws.length ≤ 4 := by
    simp only [Fr.ok, vFringe, vWaves, Bool.and_eq_true, decide_eq_true_eq] at h
    exact h.1.1.1.2
  have := perTo_bd (ws := F.ws) (fun i hi => F.wave_in h hi) F.ws.length (Nat.le_refl _)
  rw [perTo, List.take_length] at this
  refine ⟨this.1, Nat.le_trans this.2 ?_⟩
  have := Nat.pow_le_pow_right (n := 60) (by omega) h4
  have e : (60 : Nat) ^ 4 = 12960000 := rfl
  omega
/-- A wave divides the period. -/
theorem period_mod (F : Fr) (h : F.ok = true) {k : Nat} (hk : k < F.ws.length) : ((period F.ws : Nat) : Int) % (F.ws[k]?.getD 0) = 0 := by
  obtain ⟨h1, _⟩ := F.wave_in h hk
  have hd := period_dvd hk
  have : ((F.ws[k]?.getD 0).toNat : Int) ∣ ((period F.ws : Nat) : Int) := Int.natCast_dvd_natCast.2 hd
  rw [Int.toNat_of_nonneg (by omega)] at this
  exact Int.emod_eq_zero_of_dvd this
/-- No smaller number is a multiple of all waves. -/
theorem period_not_all (F : Fr) (h : F.ok = true) {l : Int} (h0 : 0 < l) (h1 : l < (period F.ws : Nat)) : ¬ ∀ k, k < F.ws.length → l % (F.ws[k]?.getD 0) = 0 := by
  intro hall
  obtain ⟨m, rfl⟩ := Int.eq_ofNat_of_zero_le (show 0 ≤ l by omega)
  have hd : period F.ws ∣ m := period_least fun k hk => by
    obtain ⟨h2, _⟩ := F.wave_in h hk
    have := Int.dvd_of_emod_eq_zero (hall k hk)
    rw [← Int.toNat_of_nonneg (show 0 ≤ F.ws[k]?.getD 0 by omega)] at this
    exact Int.natCast_dvd_natCast.1 this
  have := Nat.le_of_dvd (by omega) hd
  omega
theorem part_ok (F : Fr) (h : F.ok = true) {n : Int} {c : Nat} {x : Int} (hc : c < F.ws.length) (hx : F.ws[c]?.getD 0 = x) (h1 : 0 ≤ n) (h2 : n ≤ 2000) : partR F n c = (n / x, 20 * (n % x) / x, 0) := by
  unfold partR
  rw [h, if_neg (by simp), if_neg (by omega), Int.toNat_natCast, hx]
theorem part_range (F : Fr) (h : F.ok = true) {n c : Int} (hc : c < 0 ∨ F.ws.length ≤ c ∨ n < 0 ∨ 2000 < n) : partR F n c = (0, 0, 2) := by
  unfold partR
  rw [h, if_neg (by simp), if_pos hc]
theorem part_arg (F : Fr) (h : F.ok = false) (n c : Int) : partR F n c = (0, 0, 1) := by
  unfold partR
  rw [if_pos h]
theorem Part_at (F : Fr) (h : F.ok = true) {n : Int} {c : Nat} {x : Int} (hc : c < F.ws.length) (hx : F.ws[c]?.getD 0 = x) (h1 : 0 ≤ n) (h2 : n ≤ 2000) (w : World) (hI : F.In w) :
    Calls Try.prog 22 #[F.v, .int .i64 n, .int .i64 c] w (Ret (.tuple #[.int .i64 (n / x), .int .i64 (20 * (n % x) / x), .int .i64 0]) w) := by
  have h3 := Part_any F n c w hI
  rw [part_ok F h hc hx h1 h2] at h3
  exact h3
/-- Division with a remainder, and twentieths of it. -/
theorem split_facts {n x : Int} (h1 : 2 ≤ x) (h2 : x ≤ 60) (h3 : 0 ≤ n) (h4 : n ≤ 2000) : ∃ q r p : Int, n / x = q ∧ n % x = r ∧ 20 * (n % x) / x = p ∧ 0 ≤ q ∧ q ≤ 2000 ∧ 0 ≤ q * x ∧ q * x ≤ 2000 ∧ n - q * x = r ∧ 0 ≤ r ∧ r < x ∧ 0 ≤ p ∧ p ≤ 19 ∧ 0 ≤ p * x ∧ p * x ≤ 20 * r ∧ 20 * r < (p + 1) * x ∧ (p + 1) * x ≤ 1300 := by
  have hr0 : 0 ≤ n % x := Int.emod_nonneg _ (by omega)
  have hr1 : n % x < x := Int.emod_lt_of_pos _ (by omega)
  have hq0 : 0 ≤ n / x := Int.ediv_nonneg h3 (by omega)
  have hq1 : n / x ≤ n := Int.ediv_le_self _ h3
  have hdm := Int.ediv_mul_add_emod n x
  have hqx : 0 ≤ n / x * x := Int.mul_nonneg hq0 (by omega)
  have hb := partI_bd (wv := x) (n := n) (by omega)
  unfold partI at hb
  have hp1 : 20 * (n % x) / x * x ≤ 20 * (n % x) := Int.ediv_mul_le _ (by omega)
  have hp2 : 20 * (n % x) < (20 * (n % x) / x + 1) * x := Int.lt_ediv_add_one_mul_self _ (by omega)
  have hpx : 0 ≤ 20 * (n % x) / x * x := Int.mul_nonneg hb.1 (by omega)
  have e : (20 * (n % x) / x + 1) * x = 20 * (n % x) / x * x + x := by rw [Int.add_mul, Int.one_mul]
  exact ⟨_, _, _, rfl, rfl, rfl, hq0, by omega, hqx, by omega, by omega, hr0, hr1, hb.1, hb.2, hpx, hp1, hp2, by omega⟩
theorem part_same {n P x : Int} (hP : P % x = 0) : 20 * ((n + P) % x) / x = 20 * (n % x) / x := by
  rw [Int.add_emod, hP, Int.add_zero, Int.emod_emod_of_dvd _ (Int.dvd_refl x)]
end Go.Proofs.Ytoidnbpbeblokaa
