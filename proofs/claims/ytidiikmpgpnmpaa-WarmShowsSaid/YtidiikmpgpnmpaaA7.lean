/-
  WARM: product, tenth, what a pair shows.
-/
import Derived.Test.YtidiikmpgpnmpaaA4
import Derived.Deep.RegionHeld3
import Derived.Deep.RegionWith
namespace Go.Proofs.Ytidiikmpgpnmpaa
open Go.RowKit

/-- What a pair shows at a warmth. -/
def shI (m L c t : Int) : Int := L + m * c * t / 10
theorem mul_bd {a b A B : Int} (h1 : -A ≤ a) (h2 : a ≤ A) (h3 : -B ≤ b) (h4 : b ≤ B) : -(A * B) ≤ a * b ∧ a * b ≤ A * B := by
  have ha : a.natAbs ≤ A.toNat := by omega
  have hb : b.natAbs ≤ B.toNat := by omega
  have h := Nat.mul_le_mul ha hb
  rw [← Int.natAbs_mul] at h
  have e : A * B = ((A.toNat * B.toNat : Nat) : Int) := by
    rw [Int.natCast_mul, Int.toNat_of_nonneg (by omega), Int.toNat_of_nonneg (by omega)]
  rw [e]
  omega
theorem mct_bd {m c t : Int} (m1 : 1 ≤ m) (m2 : m ≤ 100) (c1 : 0 ≤ c) (c2 : c ≤ 20) (t1 : -101 ≤ t) (t2 : t ≤ 101) : (-2000 ≤ m * c ∧ m * c ≤ 2000) ∧ -202000 ≤ m * c * t ∧ m * c * t ≤ 202000 := by
  have h1 := mul_bd (A := 100) (B := 20) (a := m) (b := c) (by omega) m2 (by omega) c2
  have h2 := mul_bd (A := 2000) (B := 101) (a := m * c) (b := t) (by omega) (by omega) t1 t2
  omega
set_option maxHeartbeats 1600000 in
theorem product_any (b : Nat) (m c t : Int) (w : World) (m1 : 1 ≤ m) (m2 : m ≤ 100) (c1 : 0 ≤ c) (c2 : c ≤ 20) (t1 : -101 ≤ t) (t2 : t ≤ 101)
    (h0 : w.cell? ⟨b, 0, none⟩ = some (.int .i64 m)) (h1 : w.cell? ⟨b, 1, none⟩ = some (.int .i64 c)) (h2 : w.cell? ⟨b, 2, none⟩ = some (.int .i64 t)) :
    Calls Try.prog 112 #[.slice (some ⟨b, 0, none⟩) 3 3] w (RetI (m * c * t) w) := by
  obtain ⟨⟨p1, p2⟩, q1, q2⟩ := mct_bd m1 m2 c1 c2 t1 t2
  obtain ⟨p, hp⟩ : ∃ p, m * c = p := ⟨_, rfl⟩
  obtain ⟨q, hq⟩ : ∃ q, p * t = q := ⟨_, rfl⟩
  rw [hp] at p1 p2 q1 q2
  rw [hq] at q1 q2
  rw [hp, hq]
  have wm : IntKind.i64.wrap (1 * m) = m := by rw [Int.one_mul]; exact IntWalk.i64_in _ (by constructor <;> omega)
  have wp : IntKind.i64.wrap (m * c) = p := by rw [hp]; exact IntWalk.i64_in _ (by constructor <;> omega)
  have wq : IntKind.i64.wrap (p * t) = q := by rw [hq]; exact IntWalk.i64_in _ (by constructor <;> omega)
  have Wm := Lib.hid wm
  have Wp := Lib.hid wp
  have Wq := Lib.hid wq
  have lb := lt_of_cell h0
  clear hp hq wm wp wq
  go_enter Try.func112, Try.ntmps112
  go_wp2
  go_loopw [3, 8] (fun x i wr => wr = w ∧ ((x = .int .i64 1 ∧ i = .int .i64 0) ∨ (x = .int .i64 m ∧ i = .int .i64 1) ∨ (x = .int .i64 p ∧ i = .int .i64 2) ∨ (x = .int .i64 q ∧ i = .int .i64 3))) (fun _ i _ => 3 - (intOf i).toNat)
  case atStart => exact ⟨rfl, .inl ⟨rfl, rfl⟩⟩
  case round =>
    obtain ⟨rfl, ⟨rfl, rfl⟩ | ⟨rfl, rfl⟩ | ⟨rfl, rfl⟩ | ⟨rfl, rfl⟩⟩ := hrel
    · have wm := Wm.out
      go_wp2
      go_roundw
      case rel => exact ⟨trivial, .inr (.inl ⟨by first | rfl | simp [wm], by go_num⟩)⟩
      case measure => simp [intOf]
    · have wp := Wp.out
      go_wp2
      go_roundw
      case rel => exact ⟨trivial, .inr (.inr (.inl ⟨by first | rfl | simp [wp], by go_num⟩))⟩
      case measure => simp [intOf]
    · have wq := Wq.out
      go_wp2
      go_roundw
      case rel => exact ⟨trivial, .inr (.inr (.inr ⟨by first | rfl | simp [wq], by go_num⟩))⟩
      case measure => simp [intOf]
    · go_wp2
      go_ret
      exact RetI.mk rfl (Keeps.refl _)
end Go.Proofs.Ytidiikmpgpnmpaa
namespace Go.Proofs.Ytidiikmpgpnmpaa
open Go.RowKit
theorem tdiv10 (n : Int) : n.tdiv 10 = if n < 0 then -((-n) / 10) else n / 10 := by
  split
  · have h := Int.neg_tdiv (a := -n) (b := 10)
    rw [Int.neg_neg] at h
    rw [h, Int.tdiv_eq_ediv_of_nonneg (by omega)]
  · exact Int.tdiv_eq_ediv_of_nonneg (by omega)
theorem tmod10 (n : Int) : n.tmod 10 = n - 10 * n.tdiv 10 := Int.tmod_def n 10
theorem tenth_down {n : Int} (h : n.tmod 10 < 0) : n.tdiv 10 - 1 = n / 10 := by
  have h1 := tdiv10 n
  have h2 := tmod10 n
  split at h1 <;> omega
theorem tenth_up {n : Int} (h : 0 ≤ n.tmod 10) : n.tdiv 10 = n / 10 := by
  have h1 := tdiv10 n
  have h2 := tmod10 n
  split at h1 <;> omega
set_option maxHeartbeats 800000 in
theorem tenth_any (n : Int) (w : World) (h1 : -300000 ≤ n) (h2 : n ≤ 300000) : Calls Try.prog 111 #[.int .i64 n] w (RetI (n / 10) w) := by
  go_enter Try.func111, Try.ntmps111
  go_wp2
  · rename_i h
    go_ret
    exact RetI.mk ((IntWalk.wrap64_in _ (by rw [tenth_down h]; constructor <;> omega)).trans (tenth_down h)) (Keeps.refl _)
  · rename_i h
    go_ret
    exact RetI.mk (tenth_up h) (Keeps.refl _)
set_option maxHeartbeats 1600000 in
theorem shows_any (m L c t : Int) (w : World) (m1 : 1 ≤ m) (m2 : m ≤ 100) (l1 : -1000 ≤ L) (l2 : L ≤ 1000) (c1 : 0 ≤ c) (c2 : c ≤ 20) (t1 : -101 ≤ t) (t2 : t ≤ 101) :
    Calls Try.prog 99 #[.agg #[.int .i64 m, .int .i64 L, .int .i64 c], .int .i64 t] w (RetI (shI m L c t) w) := by
  obtain ⟨⟨p1, p2⟩, q1, q2⟩ := mct_bd m1 m2 c1 c2 t1 t2
  have PR := Lib.hid (fun b w1 h0 h1 h2 => product_any b m c t w1 m1 m2 c1 c2 t1 t2 h0 h1 h2)
  have TN := Lib.hid (fun w1 => tenth_any (m * c * t) w1 (by omega) (by omega))
  have WS := Lib.hid (show RowKit.wrap64 (L + m * c * t / 10) = shI m L c t from IntWalk.wrap64_in _ (by constructor <;> omega))
  obtain ⟨q, hq⟩ : ∃ q, m * c * t = q := ⟨_, rfl⟩
  rw [hq] at PR TN WS
  clear hq p1 p2 q1 q2 m1 m2 l1 l2 c1 c2 t1 t2
  go_enter Try.func99, Try.ntmps99
  go_wp2_with fail
  have HS := Lib.hid (fun (w' : World) (k : Keeps (w.alloc (.cells #[.int .i64 m, .int .i64 L, .int .i64 c] 85)) w') =>
    show w'.cell? ⟨w.heap.size, 0, none⟩ = some (.int .i64 m) ∧ w'.cell? ⟨w.heap.size, 1, none⟩ = some (.int .i64 L) ∧ w'.cell? ⟨w.heap.size, 2, none⟩ = some (.int .i64 c) ∧ Keeps w w' from
    ⟨k.cell (by simp [go_sem]), k.cell (by simp [go_sem]), k.cell (by simp [go_sem]), ((Keeps.refl _).alloc _).trans k⟩)
  go_region_held3 (fun w' => w'.cell? ⟨w.heap.size, 0, none⟩ = some (.int .i64 m) ∧ w'.cell? ⟨w.heap.size, 1, none⟩ = some (.int .i64 L) ∧ w'.cell? ⟨w.heap.size, 2, none⟩ = some (.int .i64 c) ∧ Keeps w w')
    (first | exact HS.out _ (Keeps.refl _).drew | exact HS.out _ ((Keeps.refl _).drew.alloc _) | exact HS.out _ k5 | exact HS.out _ k6)
    (first | (go_at_call 112; refine (PR.out _ _ (by simp [go_sem]) (by simp [go_sem]) (by simp [go_sem])).mono ?_; rintro e w4 ⟨rfl, k4⟩; have k5 := (((Keeps.refl (w.alloc (.cells #[.int .i64 m, .int .i64 L, .int .i64 c] 85))).drew).alloc _).trans k4) | (go_at_call 111; refine (TN.out _).mono ?_; rintro e w5 ⟨rfl, k5'⟩; have k6 := k5.trans k5'))
  go_wp2
  go_ret
  exact RetI.mk (by first | exact WS.out | exact (IntWalk.i64_left _).trans WS.out) (((Keeps.refl _).alloc _).trans k6)
set_option maxHeartbeats 800000 in
theorem allows_any (x lo hi n : Int) (w : World) : Calls Try.prog 133 #[.agg #[.int .i64 x, .int .i64 lo, .int .i64 hi], .int .i64 n] w (RetB (decide (lo ≤ n ∧ n ≤ hi)) w) := by
  have k0 : Keeps w (w.alloc (.cells #[.int .i64 x, .int .i64 lo, .int .i64 hi] 135)) := (Keeps.refl _).alloc _
  go_enter Try.func133, Try.ntmps133
  go_wp2
  all_goals first | (go_ret; exact RetB.mk (by simp; try omega) k0) | trace_state
end Go.Proofs.Ytidiikmpgpnmpaa
