/-
  FringeClash: its sets as the machine reckons them; what it finds clashing.
-/
import Derived.Test.YtgbojgachgodgaaUc
import Derived.Laws.BitsLemmas
namespace Go.Proofs.Ytgbojgachgodgaa
open Go.RowKit Go.Shelf

theorem shl_full (n : Nat) (h : n ≤ 6) : RowKit.wrap64 (RowKit.wrap64 (2 ^ n) - 1) = ((2 ^ n - 1 : Nat) : Int) := by
  have hp := Nat.pow_pos (a := 2) (n := n) (by omega)
  have h64 : 2 ^ n ≤ 64 := by have := Nat.pow_le_pow_right (n := 2) (by omega) h; simpa using this
  rw [show ((2 : Int) ^ n) = ((2 ^ n : Nat) : Int) by simp]
  have e : ∀ m : Int, 0 ≤ m → m ≤ 64 → RowKit.wrap64 m = m := fun m h0 h1 => by unfold RowKit.wrap64; omega
  rw [e ((2 ^ n : Nat) : Int) (by omega) (by omega), e _ (by omega) (by omega), Int.natCast_sub hp]
  rfl
theorem wraps62 (n : Int) (h0 : 0 ≤ n) (h1 : n < 2 ^ 62) : IntKind.i64.wrap n = n := by
  have h62 : (2 : Int) ^ 62 = 4611686018427387904 := by decide
  rw [IntKind.wrap_i64]
  omega
theorem and_nat62 (s o : Nat) (hs : s < 64) (ho : o < 64) : bits .and .i64 (s : Int) (o : Int) = ((s &&& o : Nat) : Int) :=
  (bits_nat .i64 62 (by decide) wraps62 s o (by omega) (by omega)).1
theorem and_full (n : Nat) (h : n ≤ 6) (x : Int) (h0 : 0 ≤ x) (h1 : x ≤ 255) : ∃ own : Nat, bits .and .i64 x ((2 ^ n - 1 : Nat) : Int) = (own : Int) ∧ own < 2 ^ n := by
  have hp := Nat.pow_pos (a := 2) (n := n) (by omega)
  have h62 : (2 : Int) ^ 62 = 4611686018427387904 := by decide
  have hm := bits_mask .i64 62 (by decide) wraps62 n (by omega) x h0 (by omega)
  have e : ((2 ^ n - 1 : Nat) : Int) = 2 ^ n - 1 := by
    rw [Int.natCast_sub hp]; simp
  rw [e, hm]
  have e2 : ((2 : Int) ^ n) = ((2 ^ n : Nat) : Int) := by simp
  rw [e2]
  exact ⟨(x % ((2 ^ n : Nat) : Int)).toNat, (Int.toNat_of_nonneg (Int.emod_nonneg _ (by omega))).symm, by have := Int.emod_lt_of_pos x (show (0 : Int) < ((2 ^ n : Nat) : Int) by omega); have := Int.emod_nonneg x (show ((2 ^ n : Nat) : Int) ≠ 0 by omega); omega⟩
/-- What FringeClash reckons where something clashes. -/
theorem clash_facts (F : Fr) (hok : F.ok = true) {x : St} (hc : F.clash = some x) : ∃ S o T : Nat, x.val = S ∧ setOf F.wrong = o ∧ 2 ^ F.rs.length - 1 = T ∧ T < 64 ∧ 1 ≤ S ∧ S ≤ T ∧ o ≤ T ∧ 1 ≤ pop o ∧ F.clB S = true ∧ F.clB T = true ∧ F.clB (cm T o) = false ∧ cm T o < 2 ^ F.rs.length ∧ (S &&& o) ≠ 0 ∧
    (∀ i, i < F.rs.length → hasB S i = true → F.clB (cm S (2 ^ i)) = false ∧ cm S (2 ^ i) ≤ T) ∧ (∀ y, y ≤ T → F.clB y = true → NoLater S y) ∧ ∀ y, y ≤ T → cm T y ≤ T ∧ (F.clB (cm T y) = false → NoLater o y) := by
  have hl := F.gl_in hok
  have h64 := pow_le F hok
  have hpos : 0 < 2 ^ F.gs.length := Nat.pow_pos (by omega)
  have hgl : F.gs.length = F.rs.length := F.gs_len
  obtain ⟨w1, w2, w3⟩ := wrong_facts F hok
  obtain ⟨c1, c2, c3⟩ := clash_some F hok hc
  have h0 : F.agreeW 0 = false := by
    cases h : F.agreeW 0 with
    | false => rfl
    | true => rw [clash_is_none F hok h] at hc; cases hc
  have hT : ∀ y, y ≤ 2 ^ F.gs.length - 1 → cm (2 ^ F.gs.length - 1) (cm (2 ^ F.gs.length - 1) y) = y ∧ cm (2 ^ F.gs.length - 1) y < 2 ^ F.gs.length := fun y hy =>
    have h := bits_cc _ (by omega) y (by omega) (by omega)
    ⟨h.1, h.2.1⟩
  have hTT := (bits_cc _ (show F.gs.length < 7 by omega) 0 (by omega) hpos).2.2
  rw [← hgl]
  obtain ⟨T, hTe⟩ : ∃ T, 2 ^ F.gs.length - 1 = T := ⟨_, rfl⟩
  have hT2 : 2 ^ F.gs.length = T + 1 := by omega
  have hcl : ∀ y, F.clB y = !F.agreeW (cm T y) := fun y => by rw [Fr.clB, hTe]
  have hfull := agree_full F hok
  rw [hTe] at hT hTT c1 c3 hfull ⊢
  rw [hT2] at w1 w3 c2 c3 hT ⊢
  refine ⟨x.val, setOf F.wrong, T, rfl, rfl, by omega, by omega, ?_, by omega, by omega, ?_, by rw [hcl, c1]; rfl, by rw [hcl, hTT.2, h0]; rfl, by rw [hcl, (hT _ (by omega)).1, w2]; rfl, (hT _ (by omega)).2, ?_, ?_, ?_, ?_⟩
  · rcases Nat.eq_zero_or_pos x.val with h | h
    · rw [h, hTT.1, hfull] at c1; cases c1
    · exact h
  · rcases Nat.eq_zero_or_pos (pop (setOf F.wrong)) with h | h
    · rw [((bits_pop0 _ (by omega)).2).1 h, h0] at w2; cases w2
    · exact h
  · intro h
    have := agree_mono (F := F) hok (x := setOf F.wrong) (y := cm T x.val) (fun i hi hb => by
      rw [← hTe, bits_cm _ (by omega) x.val x.isLt (by omega) i (by omega) hi, bits_apart x.val x.isLt _ (by omega) h i (by omega) hb]
      rfl) w2
    rw [c1] at this
    cases this
  · intro i hi hb
    obtain ⟨b1, b2⟩ := bits_less x.val x.isLt i (by omega) hb
    refine ⟨?_, by omega⟩
    cases h : F.clB (cm x.val (2 ^ i)) with
    | false => rfl
    | true =>
      rw [hcl] at h
      rcases c3 (cm x.val (2 ^ i)) (by omega) (by simpa using h) with h' | h'
      · omega
      · omega
  · intro y hy h
    rw [hcl] at h
    exact c3 y (by omega) (by simpa using h)
  · intro y hy
    refine ⟨by have := (hT y hy).2; omega, fun h => w3 y (by omega) ?_⟩
    rw [hcl, (hT y hy).1] at h
    simpa using h
theorem not_long (F : Fr) (h : F.ok = true) : F.long = false := by
  have h1 := F.rl_in h
  have h2 := F.wl_in h
  simp [Fr.long]; omega
theorem clash1_is (F : Fr) (hok : F.ok = true) (b s : Nat) (hs : s < 2 ^ F.rs.length) (v : Bool) (hv : F.clB s = v) (w : World) (hI : F.In w) (hB : F.Box w b) :
    Calls Try.prog 36 #[.int .i64 s, .pointer (some ⟨b, 0, none⟩)] w (RetB v w) := by
  subst hv
  exact clash1_any F hok b s (by rw [F.gs_len]; exact hs) w hI hB
theorem refSize_is (s : Nat) (hs : s < 64) (p : Nat) (hp : pop s = p) (w : World) : Calls Try.prog 37 #[.int .i64 s] w fun e w' => e = .returned (.int .i64 p) ∧ w = w' := by
  subst hp
  exact refSize_any s hs w
end Go.Proofs.Ytgbojgachgodgaa
