/-
  FringeTrue's own small functions: part (by counting), draws (a closure that counts).
  FringeTrue's closure: a number below another one, and a count that goes on.
-/
import Derived.Test.YtoidnbpbeblokaaZm
import Derived.Test.YtoidnbpbeblokaaZl
import Derived.Test.YtoidnbpbeblokaaUb
import Derived.Deep.QuietTactic
import Derived.BigQuiet
import Derived.IntWalk
namespace Go.Proofs.Ytoidnbpbeblokaa
open Go.RowKit Go.Shelf

theorem twenty_steps {x r p k : Int} (hx : 2 ≤ x) (hx2 : x ≤ 60) (h0 : 0 ≤ k) (hp : p ≤ 19) (h1 : p * x ≤ 20 * r) (h2 : 20 * r < (p + 1) * x) (hk : k ≤ p) : 0 ≤ (k + 1) * x ∧ (k + 1) * x ≤ 1200 ∧ ((k + 1) * x ≤ 20 * r ↔ k < p) := by
  have a1 : 0 ≤ k * x := Int.mul_nonneg h0 (by omega)
  have a2 : (k + 1) * x = k * x + x := by rw [Int.add_mul, Int.one_mul]
  have a3 : (p + 1) * x = p * x + x := by rw [Int.add_mul, Int.one_mul]
  have a4 : k * x ≤ 19 * x := Int.mul_le_mul_of_nonneg_right (by omega) (by omega)
  refine ⟨by omega, by omega, fun h => ?_, fun h => ?_⟩
  · by_cases h' : k < p
    · exact h'
    · obtain rfl : k = p := by omega
      omega
  · have : (k + 1) * x ≤ p * x := Int.mul_le_mul_of_nonneg_right (by omega) (by omega)
    omega
set_option maxHeartbeats 1600000 in
theorem law_part (x n : Int) (w : World) (h1 : 2 ≤ x) (h2 : x ≤ 60) (h3 : 0 ≤ n) (h4 : n ≤ 2000) : Calls Try.prog 31 #[.int .i64 x, .int .i64 n] w fun e w' => e = .returned (.int .i64 (20 * (n % x) / x)) ∧ w = w' := by
  obtain ⟨q, r, p, _, e2, e3, _, _, _, _, _, f6, f7, f8, f9, _, f11, f12, _⟩ := split_facts h1 h2 h3 h4
  rw [e3]
  have HP := Lib.hid (fun (k : Int) (h0 : 0 ≤ k) (hk : k ≤ p) => twenty_steps h1 h2 h0 f9 f11 f12 hk)
  have hx0 : ¬ (x = 0) := by omega
  clear e3 f11 f12
  go_enter Try.func31, Try.ntmps31
  go_wp2
  go_loop [6] (fun s => ∃ k : Nat, (k : Int) ≤ p ∧ s = .int .i64 k) (fun s => 20 - (intOf s).toNat)
  case atStart => exact ⟨0, by simpa using f8, rfl⟩
  case round =>
    obtain ⟨k, hk, rfl⟩ := hrel
    obtain ⟨g1, g2, g3⟩ := HP.out k (by omega) hk
    by_cases hlt : (k : Int) < p
    · have g4 := g3.2 hlt
      clear g3
      go_wp2
      go_round
      case rel => exact ⟨k + 1, by omega, by go_num⟩
      case measure => simp [intOf]; omega
    · have g4 : decide (((k : Int) + 1) * x ≤ 20 * r) = false := by
        rw [decide_eq_false_iff_not, g3]; exact hlt
      obtain rfl : (k : Int) = p := by omega
      clear g3
      go_wp2
      go_ret
      exact ⟨rfl, rfl⟩
/-- The slice at a holds these numbers below 65536. -/
def U16s (w : World) (a : Option Addr) (xs : List Int) : Prop :=
  xs ≠ [] → ∃ b o, a = some ⟨b, o, none⟩ ∧ ∀ i, i < xs.length → w.cell? ⟨b, o + i, none⟩ = some (.int .u16 (xs[i]?.getD 0)) ∧ 0 ≤ xs[i]?.getD 0 ∧ xs[i]?.getD 0 ≤ 65535
theorem U16s.keep {w w' : World} {a : Option Addr} {xs : List Int} (h : U16s w a xs) (k : Keeps w w') : U16s w' a xs := by
  intro hx
  obtain ⟨b, o, e, hc⟩ := h hx
  exact ⟨b, o, e, fun i hi => ⟨k.cell (hc i hi).1, (hc i hi).2⟩⟩
set_option maxHeartbeats 1600000 in
theorem draws_any (a : Option Addr) (cap : Nat) (xs : List Int) (w : World) : Calls Try.prog 30 #[.slice a xs.length cap] w fun e w' => ∃ bx bb, e = .returned (.func (.func 82) #[] #[.pointer (some ⟨bx, 0, none⟩), .pointer (some ⟨bb, 0, none⟩)]) ∧ w'.cell? ⟨bx, 0, none⟩ = some (.int .i64 0) ∧ w'.cell? ⟨bb, 0, none⟩ = some (.slice a xs.length cap) ∧ w'.frozen? ⟨bx, 0, none⟩ = false ∧ w.heap.size ≤ bb ∧ bb < bx ∧ Keeps w w' := by
  have hmf : ∀ (fn : Fn) (first cap : Array Value) (w : World), (Instr.makeFunc fn first cap).run Try.prog w = .ok (.func fn first cap) w := fun _ _ _ _ => rfl
  go_enter Try.func30, Try.ntmps30
  go_wp2
  go_ret
  exact ⟨_, _, rfl, by simp [go_sem], by simp [go_sem], by simp [go_sem], Nat.le_refl _, Nat.lt_succ_self _, ((Keeps.refl _).alloc _).alloc _⟩
end Go.Proofs.Ytoidnbpbeblokaa

namespace Go.Proofs.Ytoidnbpbeblokaa
open Go.RowKit Go.Shelf

/-- The call returns a number below k, and has counted on. -/
def Drawn (bx : Nat) (t k : Int) (w : World) (e : Ending) (w' : World) : Prop := ∃ (v : Int) (n : Nat), e = .returned (.int .i64 v) ∧ 0 ≤ v ∧ v < k ∧ w' = (w.setCell ⟨bx, 0, none⟩ (.int .i64 (t + 1))).drewN n
theorem Drawn.mk {bx : Nat} {t k v : Int} {w w' : World} (n : Nat) (h0 : 0 ≤ v) (h1 : v < k) (hw : w' = (w.setCell ⟨bx, 0, none⟩ (.int .i64 (t + 1))).drewN n) : Drawn bx t k w (.returned (.int .i64 v)) w' := ⟨v, n, rfl, h0, h1, hw⟩
set_option maxHeartbeats 1600000 in
theorem draw_none (bx bb : Nat) (cap : Nat) (a : Option Addr) (t k : Int) (w : World) (hx : w.cell? ⟨bx, 0, none⟩ = some (.int .i64 t)) (hf : w.frozen? ⟨bx, 0, none⟩ = false) (hb : w.cell? ⟨bb, 0, none⟩ = some (.slice a 0 cap)) (hne : bb ≠ bx) (t0 : 0 ≤ t) (t1 : t ≤ 1000) (k0 : 1 ≤ k) :
    Calls Try.prog 82 #[.int .i64 k, .pointer (some ⟨bx, 0, none⟩), .pointer (some ⟨bb, 0, none⟩)] w (Drawn bx t k w) := by
  have hlx := lt_of_cell hx
  have hk0 : ¬ (k = 0) := by omega
  have hw1 : (w.setCell ⟨bx, 0, none⟩ (.int .i64 (t + 1))).cell? ⟨bx, 0, none⟩ = some (.int .i64 (t + 1)) := cell_set_same (by rw [hx]; rfl)
  have hw2 : (w.setCell ⟨bx, 0, none⟩ (.int .i64 (t + 1))).cell? ⟨bb, 0, none⟩ = some (.slice a 0 cap) := (cell_set_other (by omega)).trans hb
  go_enter Try.func82, Try.ntmps82
  go_wp2
  go_ret
  exact Drawn.mk 0 (Int.emod_nonneg _ hk0) (Int.emod_lt_of_pos _ (by omega)) rfl
set_option maxHeartbeats 1600000 in
theorem draw_some (bx bb : Nat) (cap b o : Nat) (xs : List Int) (t k : Int) (w : World) (hx : w.cell? ⟨bx, 0, none⟩ = some (.int .i64 t)) (hf : w.frozen? ⟨bx, 0, none⟩ = false) (hb : w.cell? ⟨bb, 0, none⟩ = some (.slice (some ⟨b, o, none⟩) xs.length cap)) (hne : bb ≠ bx) (hbx : b ≠ bx)
    (hc : ∀ i, i < xs.length → w.cell? ⟨b, o + i, none⟩ = some (.int .u16 (xs[i]?.getD 0)) ∧ 0 ≤ xs[i]?.getD 0 ∧ xs[i]?.getD 0 ≤ 65535) (hp : 0 < xs.length) (hl : xs.length ≤ maxLen) (t0 : 0 ≤ t) (t1 : t ≤ 1000) (k0 : 1 ≤ k) :
    Calls Try.prog 82 #[.int .i64 k, .pointer (some ⟨bx, 0, none⟩), .pointer (some ⟨bb, 0, none⟩)] w (Drawn bx t k w) := by
  unfold maxLen at hl
  have hlx := lt_of_cell hx
  have hk0 : ¬ (k = 0) := by omega
  have hn0 : ¬ ((xs.length : Int) = 0) := by omega
  obtain ⟨i, hi⟩ : ∃ i : Nat, (t + 1) % (xs.length : Int) = i := Int.eq_ofNat_of_zero_le (Int.emod_nonneg _ hn0)
  have hil : i < xs.length := by have := Int.emod_lt_of_pos (t + 1) (show (0 : Int) < xs.length by omega); omega
  obtain ⟨c1, c2, c3⟩ := hc i hil
  obtain ⟨y, hy⟩ : ∃ y, xs[i]?.getD 0 = y := ⟨_, rfl⟩
  rw [hy] at c1 c2 c3
  have hw1 : (w.setCell ⟨bx, 0, none⟩ (.int .i64 (t + 1))).cell? ⟨bx, 0, none⟩ = some (.int .i64 (t + 1)) := cell_set_same (by rw [hx]; rfl)
  have hw2 : (w.setCell ⟨bx, 0, none⟩ (.int .i64 (t + 1))).cell? ⟨bb, 0, none⟩ = some (.slice (some ⟨b, o, none⟩) xs.length cap) := (cell_set_other (by omega)).trans hb
  have hw3 : (w.setCell ⟨bx, 0, none⟩ (.int .i64 (t + 1))).cell? ⟨b, o + i, none⟩ = some (.int .u16 y) := (cell_set_other (by omega)).trans c1
  obtain ⟨W, hW⟩ : ∃ W, w.setCell ⟨bx, 0, none⟩ (.int .i64 (t + 1)) = W := ⟨_, rfl⟩
  rw [hW] at hw1 hw2 hw3
  have HW := Lib.hid hW
  have hL1 := lt_of_cell hw1
  have hL2 := lt_of_cell hw2
  have hL3 := lt_of_cell hw3
  clear hc hy c1 hl
  go_enter Try.func82, Try.ntmps82
  go_wp2_with fail
  clear hx hf hb hW
  have e1 : IntKind.i64.wrap (61 * (t + 1)) = 61 * (t + 1) := IntWalk.i64_in _ (by constructor <;> omega)
  have e2 : IntKind.i64.wrap (y + 61 * (t + 1)) = y + 61 * (t + 1) := IntWalk.i64_in _ (by constructor <;> omega)
  go_region
  all_goals
    go_wp2
    go_ret
    exact Drawn.mk 1 (Int.emod_nonneg _ hk0) (Int.emod_lt_of_pos _ (by omega)) (by rw [HW.out]; rfl)
theorem draw_any (bx bb cap : Nat) (a : Option Addr) (xs : List Int) (t k : Int) (w : World) (hx : w.cell? ⟨bx, 0, none⟩ = some (.int .i64 t)) (hf : w.frozen? ⟨bx, 0, none⟩ = false) (hb : w.cell? ⟨bb, 0, none⟩ = some (.slice a xs.length cap)) (hne : bb ≠ bx) (hbx : ∀ b o, a = some ⟨b, o, none⟩ → b ≠ bx)
    (hU : U16s w a xs) (hl : xs.length ≤ maxLen) (t0 : 0 ≤ t) (t1 : t ≤ 1000) (k0 : 1 ≤ k) :
    Calls Try.prog 82 #[.int .i64 k, .pointer (some ⟨bx, 0, none⟩), .pointer (some ⟨bb, 0, none⟩)] w (Drawn bx t k w) := by
  by_cases h : xs = []
  · subst h
    exact draw_none bx bb cap a t k w hx hf hb hne t0 t1 k0
  · obtain ⟨b, o, rfl, hc⟩ := hU h
    exact draw_some bx bb cap b o xs t k w hx hf hb hne (hbx b o rfl) hc (List.length_pos_iff.2 h) hl t0 t1 k0
end Go.Proofs.Ytoidnbpbeblokaa
