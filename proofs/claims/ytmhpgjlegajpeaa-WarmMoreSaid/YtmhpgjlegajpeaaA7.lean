/-
  WARM: product, tenth, what a pair shows.
  WARM: the warmths at which a pair shows what was read: exact and vague readings.
  WARM: the iterators over the warmths of a reading.
  WARM: the iterator over the warmths of a vague reading.
-/
import Derived.Test.YtmhpgjlegajpeaaA3
import Derived.Deep.RegionHeld3
import Derived.Deep.RegionWith
import Derived.RangeFuncNested
import Derived.RangeFuncBound
import Derived.RangeFuncCalls
import Derived.RangeFuncLeaves
import Derived.Shelf.Abstract
import Derived.Shelf.RegionOpen
import Derived.WalkKit
import Derived.OwnWalkIn
import Derived.TacticsInMore
import Derived.LoopNIn
import Derived.LoopIn
import Derived.Stop.RegionWithIn
namespace Go.Proofs.Ytmhpgjlegajpeaa
open Go.RowKit

/-- What a pair shows at a warmth. -/
def shI (m L c t : Int) : Int := L + m * c * t / 10
theorem mul_bd {a b A B : Int} (h1 : -A ≤ a) (h2 : a ≤ A) (h3 : -B ≤ b) (h4 : b ≤ B) : -(A * B) ≤ a * b ∧ a * b ≤ A * B := by
  have ha : a.natAbs ≤ A.toNat := by omega
  have hb : b.natAbs ≤ B.toNat := by omega
  have h := Nat.mul_le_mul ha hb
  rw [← Int.natAbs_mul] at h
  have e : A * B = ((A.toNat * B.toNat : Nat) : Int) := by
    rw [Int.natCast_mul, Int.toNat_of_nonneg (by omega), Int.toNat_of_nonneg (by omega)]
  rw [e]
  omega
theorem mct_bd {m c t : Int} (m1 : 1 ≤ m) (m2 : m ≤ 100) (c1 : 0 ≤ c) (c2 : c ≤ 20) (t1 : -101 ≤ t) (t2 : t ≤ 101) : (-2000 ≤ m * c ∧ m * c ≤ 2000) ∧ -202000 ≤ m * c * t ∧ m * c * t ≤ 202000 := by
  have h1 := mul_bd (A := 100) (B := 20) (a := m) (b := c) (by omega) m2 (by omega) c2
  have h2 := mul_bd (A := 2000) (B := 101) (a := m * c) (b := t) (by omega) (by omega) t1 t2
  omega
set_option maxHeartbeats 1600000 in
theorem product_any (b : Nat) (m c t : Int) (w : World) (m1 : 1 ≤ m) (m2 : m ≤ 100) (c1 : 0 ≤ c) (c2 : c ≤ 20) (t1 : -101 ≤ t) (t2 : t ≤ 101)
    (h0 : w.cell? ⟨b, 0, none⟩ = some (.int .i64 m)) (h1 : w.cell? ⟨b, 1, none⟩ = some (.int .i64 c)) (h2 : w.cell? ⟨b, 2, none⟩ = some (.int .i64 t)) :
    Calls Try.prog 112 #[.slice (some ⟨b, 0, none⟩) 3 3] w (RetI (m * c * t) w) := by
  obtain ⟨⟨p1, p2⟩, q1, q2⟩ := mct_bd m1 m2 c1 c2 t1 t2
  obtain ⟨p, hp⟩ : ∃ p, m * c = p := ⟨_, rfl⟩
  obtain ⟨q, hq⟩ : ∃ q, p * t = q := ⟨_, rfl⟩
  rw [hp] at p1 p2 q1 q2
  rw [hq] at q1 q2
  rw [hp, hq]
  have wm : IntKind.i64.wrap (1 * m) = m := by rw [Int.one_mul]; exact IntWalk.i64_in _ (by constructor <;> omega)
  have wp : IntKind.i64.wrap (m * c) = p := by rw [hp]; exact IntWalk.i64_in _ (by constructor <;> omega)
  have wq : IntKind.i64.wrap (p * t) = q := by rw [hq]; exact IntWalk.i64_in _ (by constructor <;> omega)
  have Wm := Lib.hid wm
  have Wp := Lib.hid wp
  have Wq := Lib.hid wq
  have lb := lt_of_cell h0
  clear hp hq wm wp wq
  go_enter Try.func112, Try.ntmps112
  go_wp2
  go_loopw [3, 8] (fun x i wr => wr = w ∧ ((x = .int .i64 1 ∧ i = .int .i64 0) ∨ (x = .int .i64 m ∧ i = .int .i64 1) ∨ (x = .int .i64 p ∧ i = .int .i64 2) ∨ (x = .int .i64 q ∧ i = .int .i64 3))) (fun _ i _ => 3 - (intOf i).toNat)
  case atStart => exact ⟨rfl, .inl ⟨rfl, rfl⟩⟩
  case round =>
    obtain ⟨rfl, ⟨rfl, rfl⟩ | ⟨rfl, rfl⟩ | ⟨rfl, rfl⟩ | ⟨rfl, rfl⟩⟩ := hrel
    · have wm := Wm.out
      go_wp2
      go_roundw
      case rel => exact ⟨trivial, .inr (.inl ⟨by first | rfl | simp [wm], by go_num⟩)⟩
      case measure => simp [intOf]
    · have wp := Wp.out
      go_wp2
      go_roundw
      case rel => exact ⟨trivial, .inr (.inr (.inl ⟨by first | rfl | simp [wp], by go_num⟩))⟩
      case measure => simp [intOf]
    · have wq := Wq.out
      go_wp2
      go_roundw
      case rel => exact ⟨trivial, .inr (.inr (.inr ⟨by first | rfl | simp [wq], by go_num⟩))⟩
      case measure => simp [intOf]
    · go_wp2
      go_ret
      exact RetI.mk rfl (Keeps.refl _)
end Go.Proofs.Ytmhpgjlegajpeaa
namespace Go.Proofs.Ytmhpgjlegajpeaa
open Go.RowKit
theorem tdiv10 (n : Int) : n.tdiv 10 = if n < 0 then -((-n) / 10) else n / 10 := by
  split
  · have h := Int.neg_tdiv (a := -n) (b := 10)
    rw [Int.neg_neg] at h
    rw [h, Int.tdiv_eq_ediv_of_nonneg (by omega)]
  · exact Int.tdiv_eq_ediv_of_nonneg (by omega)
theorem tmod10 (n : Int) : n.tmod 10 = n - 10 * n.tdiv 10 := Int.tmod_def n 10
theorem tenth_down {n : Int} (h : n.tmod 10 < 0) : n.tdiv 10 - 1 = n / 10 := by
  have h1 := tdiv10 n
  have h2 := tmod10 n
  split at h1 <;> omega
theorem tenth_up {n : Int} (h : 0 ≤ n.tmod 10) : n.tdiv 10 = n / 10 := by
  have h1 := tdiv10 n
  have h2 := tmod10 n
  split at h1 <;> omega
set_option maxHeartbeats 800000 in
theorem tenth_any (n : Int) (w : World) (h1 : -300000 ≤ n) (h2 : n ≤ 300000) : Calls Try.prog 111 #[.int .i64 n] w (RetI (n / 10) w) := by
  go_enter Try.func111, Try.ntmps111
  go_wp2
  · rename_i h
    go_ret
    exact RetI.mk ((IntWalk.wrap64_in _ (by rw [tenth_down h]; constructor <;> omega)).trans (tenth_down h)) (Keeps.refl _)
  · rename_i h
    go_ret
    exact RetI.mk (tenth_up h) (Keeps.refl _)
set_option maxHeartbeats 1600000 in
theorem shows_any (m L c t : Int) (w : World) (m1 : 1 ≤ m) (m2 : m ≤ 100) (l1 : -1000 ≤ L) (l2 : L ≤ 1000) (c1 : 0 ≤ c) (c2 : c ≤ 20) (t1 : -101 ≤ t) (t2 : t ≤ 101) :
    Calls Try.prog 99 #[.agg #[.int .i64 m, .int .i64 L, .int .i64 c], .int .i64 t] w (RetI (shI m L c t) w) := by
  obtain ⟨⟨p1, p2⟩, q1, q2⟩ := mct_bd m1 m2 c1 c2 t1 t2
  have PR := Lib.hid (fun b w1 h0 h1 h2 => product_any b m c t w1 m1 m2 c1 c2 t1 t2 h0 h1 h2)
  have TN := Lib.hid (fun w1 => tenth_any (m * c * t) w1 (by omega) (by omega))
  have WS := Lib.hid (show RowKit.wrap64 (L + m * c * t / 10) = shI m L c t from IntWalk.wrap64_in _ (by constructor <;> omega))
  obtain ⟨q, hq⟩ : ∃ q, m * c * t = q := ⟨_, rfl⟩
  rw [hq] at PR TN WS
  clear hq p1 p2 q1 q2 m1 m2 l1 l2 c1 c2 t1 t2
  go_enter Try.func99, Try.ntmps99
  go_wp2_with fail
  have HS := Lib.hid (fun (w' : World) (k : Keeps (w.alloc (.cells #[.int .i64 m, .int .i64 L, .int .i64 c] 85)) w') =>
    show w'.cell? ⟨w.heap.size, 0, none⟩ = some (.int .i64 m) ∧ w'.cell? ⟨w.heap.size, 1, none⟩ = some (.int .i64 L) ∧ w'.cell? ⟨w.heap.size, 2, none⟩ = some (.int .i64 c) ∧ Keeps w w' from
    ⟨k.cell (by simp [go_sem]), k.cell (by simp [go_sem]), k.cell (by simp [go_sem]), ((Keeps.refl _).alloc _).trans k⟩)
  go_region_held3 (fun w' => w'.cell? ⟨w.heap.size, 0, none⟩ = some (.int .i64 m) ∧ w'.cell? ⟨w.heap.size, 1, none⟩ = some (.int .i64 L) ∧ w'.cell? ⟨w.heap.size, 2, none⟩ = some (.int .i64 c) ∧ Keeps w w')
    (first | exact HS.out _ (Keeps.refl _).drew | exact HS.out _ ((Keeps.refl _).drew.alloc _) | exact HS.out _ k5 | exact HS.out _ k6)
    (first | (go_at_call 112; refine (PR.out _ _ (by simp [go_sem]) (by simp [go_sem]) (by simp [go_sem])).mono ?_; rintro e w4 ⟨rfl, k4⟩; have k5 := (((Keeps.refl (w.alloc (.cells #[.int .i64 m, .int .i64 L, .int .i64 c] 85))).drew).alloc _).trans k4) | (go_at_call 111; refine (TN.out _).mono ?_; rintro e w5 ⟨rfl, k5'⟩; have k6 := k5.trans k5'))
  go_wp2
  go_ret
  exact RetI.mk (by first | exact WS.out | exact (IntWalk.i64_left _).trans WS.out) (((Keeps.refl _).alloc _).trans k6)
set_option maxHeartbeats 800000 in
theorem allows_any (x lo hi n : Int) (w : World) : Calls Try.prog 133 #[.agg #[.int .i64 x, .int .i64 lo, .int .i64 hi], .int .i64 n] w (RetB (decide (lo ≤ n ∧ n ≤ hi)) w) := by
  have k0 : Keeps w (w.alloc (.cells #[.int .i64 x, .int .i64 lo, .int .i64 hi] 135)) := (Keeps.refl _).alloc _
  go_enter Try.func133, Try.ntmps133
  go_wp2
  all_goals first | (go_ret; exact RetB.mk (by simp; try omega) k0) | trace_state
end Go.Proofs.Ytmhpgjlegajpeaa

namespace Go.Proofs.Ytmhpgjlegajpeaa
open Go.RowKit Go.Shelf
attribute [local go_sem] Oper.semAt_some

/-- A pair: a length and a coefficient; its mark is m. -/
def prV (m : Int) (p : Int × Int) : Value := .agg #[.int .i64 m, .int .i64 p.1, .int .i64 p.2]
def okP (m : Int) (p : Int × Int) : Prop := 1 ≤ m ∧ m ≤ 100 ∧ -1000 ≤ p.1 ∧ p.1 ≤ 1000 ∧ 0 ≤ p.2 ∧ p.2 ≤ 20
def shP (m : Int) (p : Int × Int) (t : Int) : Int := shI m p.1 p.2 t
/-- Does a pair show at a warmth what was read? -/
def hitB (m : Int) (p : Int × Int) (r : Wr) (t : Int) : Bool := decide (r.2.2.1 ≤ shP m p t ∧ shP m p t ≤ r.2.2.2)
def warmsTo (m : Int) (p : Int × Int) (r : Wr) (k : Nat) : List Int := ((List.range k).map (fun i : Nat => r.1 + (i : Int))).filter (hitB m p r)
/-- The warmths of a reading at which a pair shows what was read. -/
def warms (m : Int) (p : Int × Int) (r : Wr) : List Int := warmsTo m p r (r.2.1 + 1 - r.1).toNat
theorem warmsTo_zero (m : Int) (p : Int × Int) (r : Wr) : warmsTo m p r 0 = [] := rfl
theorem warmsTo_yes {m : Int} {p : Int × Int} {r : Wr} {k : Nat} (h : hitB m p r (r.1 + k) = true) : warmsTo m p r (k + 1) = warmsTo m p r k ++ [r.1 + k] := by
  simp [warmsTo, List.range_succ, h]
theorem warmsTo_no {m : Int} {p : Int × Int} {r : Wr} {k : Nat} (h : hitB m p r (r.1 + k) = false) : warmsTo m p r (k + 1) = warmsTo m p r k := by
  simp [warmsTo, List.range_succ, h]
theorem warmsTo_pre {m : Int} {p : Int × Int} {r : Wr} {k n : Nat} (h : k ≤ n) : warmsTo m p r k <+: warmsTo m p r n := by
  induction n with
  | zero => obtain rfl : k = 0 := by omega
            exact List.prefix_refl _
  | succ n ih =>
    by_cases e : k = n + 1
    · subst e; exact List.prefix_refl _
    · refine (ih (by omega)).trans ?_
      cases ha : hitB m p r (r.1 + n) with
      | true => rw [warmsTo_yes ha]; exact List.prefix_append _ _
      | false => rw [warmsTo_no ha]; exact List.prefix_refl _
/-- A reading, as the program keeps it. -/
def rdV (r : Wr) : Value := if r.1 = r.2.1 then .iface 135 (.agg #[.int .i64 r.1, .int .i64 r.2.2.1, .int .i64 r.2.2.2]) else .iface 137 (.agg #[.int .i64 r.1, .int .i64 r.2.2.1, .int .i64 r.2.2.2, .int .i64 r.2.1])
def okW (r : Wr) : Prop := -100 ≤ r.1 ∧ r.1 ≤ r.2.1 ∧ r.2.1 ≤ 100

/-- All blocks of cells, maps and map iterators but those of X are as they were. -/
structure KeepX (X : Nat → Prop) (W W' : World) : Prop where
  size : W.heap.size ≤ W'.heap.size
  same : ∀ k o, W.heap[k]? = some o → o.isCells = true ∨ o.isWalk = true → ¬ X k → W'.heap[k]? = some o
theorem KeepX.refl (X : Nat → Prop) (W : World) : KeepX X W W := ⟨Nat.le_refl _, fun _ _ h _ _ => h⟩
theorem KeepX.trans {X : Nat → Prop} {A B C : World} (h : KeepX X A B) (k : KeepX X B C) : KeepX X A C := ⟨Nat.le_trans h.size k.size, fun i o hi ho hx => k.same i o (h.same i o hi ho hx) ho hx⟩
theorem KeepX.of_keeps {X : Nat → Prop} {A B : World} (h : Keeps A B) : KeepX X A B := ⟨h.size, fun _ _ hk _ _ => (h.heap (Array.getElem?_eq_some_iff.1 hk).1).trans hk⟩
theorem KeepX.cell {X : Nat → Prop} {A B : World} (h : KeepX X A B) {k o : Nat} {v : Value} (hc : A.cell? ⟨k, o, none⟩ = some v) (hx : ¬ X k) : B.cell? ⟨k, o, none⟩ = some v := by
  cases e : A.heap[k]? with
  | none => simp [World.cell?, e] at hc
  | some b =>
    have hb : b.isCells = true := by
      cases b <;> first | rfl | simp [World.cell?, e] at hc
    exact (World.cell?_of_block ((h.same k b e (.inl hb) hx).trans e.symm)).trans hc
theorem KeepX.setCell {X : Nat → Prop} (A : World) {p : Addr} (v : Value) (hx : X p.block) : KeepX X A (A.setCell p v) :=
  ⟨by simp [World.setCell], fun k _ hk _ hX => (Below.heap_setCell _ _ _ _ (fun e => hX (by rw [e]; exact hx))).trans hk⟩
theorem KeepX.drewN {X : Nat → Prop} {A B : World} (h : KeepX X A B) (n : Nat) : KeepX X A (B.drewN n) := ⟨h.size, h.same⟩
theorem KeepX.putObj {w : World} {X : Nat → Prop} : ∀ (W : World) (l : Nat) (o o' : Obj), w.heap.size ≤ l → W.heap[l]? = some o → o.isCells = false → o.isWalk = false → KeepX X W (W.putObj l o') :=
  fun W l o o' _ hl h1 h2 => ⟨(grownBy_putObj' W l o').size, fun k ob hk ho _ => by
    by_cases e : k = l
    · subst e
      rw [hl] at hk
      cases hk
      rcases ho with h | h
      · rw [h1] at h; cases h
      · rw [h2] at h; cases h
    · exact (World.putObj_heap_other e).trans hk⟩

theorem exact_warmths (t slo shi : Int) (K : Nat) (q : Array Value) (w : World) : Calls Try.prog 134 #[.agg #[.int .i64 t, .int .i64 slo, .int .i64 shi], .func (.func K) q #[]] w fun e w' =>
    e = .returned (.func (.func 135) #[] #[.pointer (some ⟨w.heap.size, 0, none⟩), .pointer (some ⟨w.heap.size + 1, 0, none⟩)]) ∧ Keeps w w' ∧
      w'.cell? ⟨w.heap.size, 0, none⟩ = some (.int .i64 t) ∧ w'.cell? ⟨w.heap.size, 1, none⟩ = some (.int .i64 slo) ∧ w'.cell? ⟨w.heap.size, 2, none⟩ = some (.int .i64 shi) ∧ w'.cell? ⟨w.heap.size + 1, 0, none⟩ = some (.func (.func K) q #[]) := by
  have hmf : ∀ (fn : Fn) (first cap : Array Value) (w : World), (Instr.makeFunc fn first cap).run Try.prog w = .ok (.func fn first cap) w := fun _ _ _ _ => rfl
  have k0 := ((Keeps.refl w).alloc (.cells #[.int .i64 t, .int .i64 slo, .int .i64 shi] 135)).alloc (.cells #[.func (.func K) q #[]] 64)
  go_enter Try.func134, Try.ntmps134
  go_wp2
  go_ret
  exact ⟨rfl, k0, by simp [go_sem], by simp [go_sem], by simp [go_sem], by simp [go_sem]⟩
theorem vague_warmths (t slo shi l : Int) (K : Nat) (q : Array Value) (w : World) : Calls Try.prog 136 #[.agg #[.int .i64 t, .int .i64 slo, .int .i64 shi, .int .i64 l], .func (.func K) q #[]] w fun e w' =>
    e = .returned (.func (.func 137) #[] #[.pointer (some ⟨w.heap.size, 0, none⟩), .pointer (some ⟨w.heap.size + 1, 0, none⟩)]) ∧ Keeps w w' ∧
      w'.cell? ⟨w.heap.size, 0, none⟩ = some (.int .i64 t) ∧ w'.cell? ⟨w.heap.size, 1, none⟩ = some (.int .i64 slo) ∧ w'.cell? ⟨w.heap.size, 2, none⟩ = some (.int .i64 shi) ∧ w'.cell? ⟨w.heap.size, 3, none⟩ = some (.int .i64 l) ∧ w'.cell? ⟨w.heap.size + 1, 0, none⟩ = some (.func (.func K) q #[]) := by
  have hmf : ∀ (fn : Fn) (first cap : Array Value) (w : World), (Instr.makeFunc fn first cap).run Try.prog w = .ok (.func fn first cap) w := fun _ _ _ _ => rfl
  have k0 := ((Keeps.refl w).alloc (.cells #[.int .i64 t, .int .i64 slo, .int .i64 shi, .int .i64 l] 137)).alloc (.cells #[.func (.func K) q #[]] 64)
  go_enter Try.func136, Try.ntmps136
  go_wp2
  go_ret
  exact ⟨rfl, k0, by simp [go_sem], by simp [go_sem], by simp [go_sem], by simp [go_sem], by simp [go_sem]⟩
end Go.Proofs.Ytmhpgjlegajpeaa

namespace Go.Proofs.Ytmhpgjlegajpeaa
open Go.RowKit Go.Shelf
attribute [local go_sem] Oper.semAt_some

/-- The method value that tells what a pair shows. -/
def shF (m : Int) (p : Int × Int) : Value := .func (.func 99) #[prV m p] #[]
theorem shows_at (m : Int) (p : Int × Int) (t : Int) (w : World) (hp : okP m p) (t1 : -101 ≤ t) (t2 : t ≤ 101) : Calls Try.prog 99 #[prV m p, .int .i64 t] w (RetI (shP m p t) w) :=
  shows_any m p.1 p.2 t w hp.1 hp.2.1 hp.2.2.1 hp.2.2.2.1 hp.2.2.2.2.1 hp.2.2.2.2.2 t1 t2
theorem hit_allows (m : Int) (p : Int × Int) (x lo hi t : Int) (r : Wr) (w : World) (h1 : r.2.2.1 = lo) (h2 : r.2.2.2 = hi) : Calls Try.prog 133 #[.agg #[.int .i64 x, .int .i64 lo, .int .i64 hi], .int .i64 (shP m p t)] w (RetB (hitB m p r t) w) := by
  subst h1
  subst h2
  exact allows_any x _ _ _ w

set_option maxHeartbeats 1600000 in
theorem exact1_in (n : Nat) (hn : 1 ≤ n) (l b1 b2 : Nat) (X : Nat → Prop) (m : Int) (p : Int × Int) (r : Wr) (hp : okP m p) (hr : okW r) (he : r.1 = r.2.1) (J Jx : List Int → World → Prop)
    (hY : ∀ pre x W, J pre W → pre.length < (warms m p r).length → YieldAt Fence.wide (n - 1) Try.prog l #[.int .i64 x] W fun e W' =>
      (e = .returned (.bool true) ∧ J (pre ++ [x]) W' ∧ KeepX X W W') ∨ (e = .returned (.bool false) ∧ Jx (pre ++ [x]) W'))
    (W : World) (hJ : AbidesFrom W.heap.size J)
    (h1 : W.cell? ⟨b1, 0, none⟩ = some (.int .i64 r.1)) (h2 : W.cell? ⟨b1, 1, none⟩ = some (.int .i64 r.2.2.1)) (h3 : W.cell? ⟨b1, 2, none⟩ = some (.int .i64 r.2.2.2)) (h4 : W.cell? ⟨b2, 0, none⟩ = some (shF m p)) (h0 : J [] W) :
    CallsIn Fence.wide n Try.prog 135 #[.func (.yield l) #[] #[], .pointer (some ⟨b1, 0, none⟩), .pointer (some ⟨b2, 0, none⟩)] W fun e W' => (∃ v, e = .returned v) ∧
      ((∃ ys, ys = warms m p r ∧ J ys W') ∨ (∃ pre, pre <+: warms m p r ∧ Jx pre W')) := by
  obtain ⟨t, t', slo, shi⟩ := r
  dsimp only at h1 h2 h3 he
  subst he
  obtain ⟨r1, _, r2⟩ := hr
  dsimp only at r1 r2
  have hw1 : warms m p (t, t, slo, shi) = if hitB m p (t, t, slo, shi) t = true then [t] else [] := by
    have e1 : (t + 1 - t).toNat = 1 := by omega
    show warmsTo m p (t, t, slo, shi) (t + 1 - t).toNat = _
    rw [e1]
    simp [warmsTo, List.filter_cons]
  have SH := Lib.hid (fun w1 => (callsIn_wide (n := n - 1)).2 (shows_at m p t w1 hp (by omega) (by omega)))
  have AL := Lib.hid (fun w1 => (callsIn_wide (n := n - 1)).2 (hit_allows m p t slo shi t (t, t, slo, shi) w1 rfl rfl))
  obtain ⟨z, hz⟩ : ∃ z, shP m p t = z := ⟨_, rfl⟩
  obtain ⟨v, hv⟩ : ∃ v, hitB m p (t, t, slo, shi) t = v := ⟨_, rfl⟩
  rw [hz] at SH AL
  rw [hv] at AL hw1
  have HW := Lib.hid hw1
  have HJ := Lib.hid hJ
  have HY := Lib.hid hY
  have hlb1 := lt_of_cell h1
  have hlb2 := lt_of_cell h4
  unfold shF prV at h4
  clear hY hJ hz hv hw1 hp
  refine callsIn_of_wp Try.func135 rfl trivial ?_
  simp only [Try.ntmps135, List.size_toArray, List.length_cons, List.length_nil, Nat.reduceAdd, Nat.reduceSub, Array.replicate_succ, Array.replicate_zero, List.push_toArray, List.append_toArray, List.nil_append, List.cons_append]
  have hfw : ∀ f, Fence.wide.fn f := fun _ => trivial
  have D1 := Lib.hid (fun w2 (k : Keeps W w2) => HJ.out _ W w2 none h0 ⟨k.os, k.tape, k.output, k.size, fun k' hk _ => k.block k' hk⟩ (fun r e => by cases e))
  cases v
  · rw [if_neg (by simp)] at HW
    gi_wp2_with fail
    gi_region_with (first | (gi_at_call 99; refine (SH.out _).mono ?_; rintro e w1 ⟨rfl, k1⟩; have c1 := k1.undrew.cell h1; have c2 := k1.undrew.cell h2; have c3 := k1.undrew.cell h3; have hl1 : b1 < w1.heap.size := lt_of_cell c1) | (gi_at_call 133; refine (AL.out _).mono ?_; rintro e w2 ⟨rfl, k2⟩))
    all_goals
      gi_wp2_with fail
      refine bodyPost_end (results_none rfl _ _ _) rfl ?_
      exact ⟨⟨_, rfl⟩, .inl ⟨_, rfl, by rw [HW.out]; exact D1.out _ (by first | exact k1.undrew.trans k2 | exact k1.undrew.trans k2.undrew)⟩⟩
  · rw [if_pos rfl] at HW
    gi_wp2_with fail
    gi_region_with (first | (gi_at_call 99; refine (SH.out _).mono ?_; rintro e w1 ⟨rfl, k1⟩; have c1 := k1.undrew.cell h1; have c2 := k1.undrew.cell h2; have c3 := k1.undrew.cell h3; have hl1 : b1 < w1.heap.size := lt_of_cell c1) | (gi_at_call 133; refine (AL.out _).mono ?_; rintro e w2 ⟨rfl, k2⟩; have d1 := k2.cell c1; have hl2 : b1 < w2.heap.size := lt_of_cell d1))
    all_goals
      obtain ⟨fn, tmps, assign, body, hy, hR⟩ := HY.out [] t w2 (D1.out _ (by first | exact k1.undrew.trans k2 | exact k1.undrew.trans k2.undrew)) (by rw [HW.out]; exact Nat.one_pos)
      gi_wp2_with fail
      refine hR.mono ?_
      rintro e W3 (⟨rfl, hJ3, _⟩ | ⟨rfl, hJx3⟩)
      all_goals
        gi_wp2_with fail
        refine bodyPost_end (results_none rfl _ _ _) rfl ?_
      · exact ⟨⟨_, rfl⟩, .inl ⟨_, rfl, by rw [HW.out]; exact hJ3⟩⟩
      · exact ⟨⟨_, rfl⟩, .inr ⟨_, by rw [HW.out]; exact List.prefix_refl _, hJx3⟩⟩
end Go.Proofs.Ytmhpgjlegajpeaa

namespace Go.Proofs.Ytmhpgjlegajpeaa
open Go.RowKit Go.Shelf
attribute [local go_sem] Oper.semAt_some

set_option maxHeartbeats 3200000 in
theorem vague1_in (n : Nat) (hn : 1 ≤ n) (l b1 b2 : Nat) (X : Nat → Prop) (m : Int) (p : Int × Int) (r : Wr) (hp : okP m p) (hr : okW r) (J Jx : List Int → World → Prop)
    (hY : ∀ pre x W, J pre W → pre.length < (warms m p r).length → YieldAt Fence.wide (n - 1) Try.prog l #[.int .i64 x] W fun e W' =>
      (e = .returned (.bool true) ∧ J (pre ++ [x]) W' ∧ KeepX X W W') ∨ (e = .returned (.bool false) ∧ Jx (pre ++ [x]) W'))
    (W : World) (hJ : AbidesFrom W.heap.size J) (hx1 : ¬ X b1) (hx2 : ¬ X b2)
    (h1 : W.cell? ⟨b1, 0, none⟩ = some (.int .i64 r.1)) (h2 : W.cell? ⟨b1, 1, none⟩ = some (.int .i64 r.2.2.1)) (h3 : W.cell? ⟨b1, 2, none⟩ = some (.int .i64 r.2.2.2)) (h5 : W.cell? ⟨b1, 3, none⟩ = some (.int .i64 r.2.1)) (h4 : W.cell? ⟨b2, 0, none⟩ = some (shF m p)) (h0 : J [] W) :
    CallsIn Fence.wide n Try.prog 137 #[.func (.yield l) #[] #[], .pointer (some ⟨b1, 0, none⟩), .pointer (some ⟨b2, 0, none⟩)] W fun e W' => (∃ v, e = .returned v) ∧
      ((∃ ys, ys = warms m p r ∧ J ys W') ∨ (∃ pre, pre <+: warms m p r ∧ Jx pre W')) := by
  obtain ⟨t, t', slo, shi⟩ := r
  dsimp only at h1 h2 h3 h5
  obtain ⟨r1, r3, r2⟩ := hr
  dsimp only at r1 r2 r3
  have SH := Lib.hid (fun t w1 ht1 ht2 => (callsIn_wide (n := n - 1)).2 (shows_at m p t w1 hp ht1 ht2))
  have AL := Lib.hid (fun y w1 => (callsIn_wide (n := n - 1)).2 (hit_allows m p t slo shi y (t, t', slo, shi) w1 rfl rfl))
  have HY1 := Lib.hid (fun k (hk : hitB m p (t, t', slo, shi) (t + (k : Nat)) = true) => @warmsTo_yes m p (t, t', slo, shi) k hk)
  have HN1 := Lib.hid (fun k (hk : hitB m p (t, t', slo, shi) (t + (k : Nat)) = false) => @warmsTo_no m p (t, t', slo, shi) k hk)
  have HP := Lib.hid (fun k (hk : k ≤ (t' + 1 - t).toNat) => @warmsTo_pre m p (t, t', slo, shi) k _ hk)
  have HZ := Lib.hid (show warms m p (t, t', slo, shi) = warmsTo m p (t, t', slo, shi) (t' + 1 - t).toNat from rfl)
  obtain ⟨wt, hwt⟩ : ∃ wt : Nat → List Int, warmsTo m p (t, t', slo, shi) = wt := ⟨_, rfl⟩
  have hw0 : wt 0 = [] := by rw [← hwt]; rfl
  rw [hwt] at HY1 HN1 HP HZ
  have HJ := Lib.hid hJ
  have HY := Lib.hid hY
  have HX1 := Lib.hid hx1
  have HX2 := Lib.hid hx2
  have hlb1 := lt_of_cell h1
  unfold shF prV at h4
  clear hY hJ hp hx1 hx2 hwt
  have hmx : Try.prog.follows .mixedOrders = true := by kernel_rfl
  have hfw : ∀ f, Fence.wide.fn f := fun _ => trivial
  refine callsIn_of_wp Try.func137 rfl trivial ?_
  simp only [Try.ntmps137, List.size_toArray, List.length_cons, List.length_nil, Nat.reduceAdd, Nat.reduceSub, Array.replicate_succ, Array.replicate_zero, List.push_toArray, List.append_toArray, List.nil_append, List.cons_append]
  gi_wp2_with fail
  gi_loopw [4] (fun i wr => ∃ k : Nat, i = .int .i64 (t + (k : Nat)) ∧ (k : Int) ≤ t' + 1 - t ∧ J (wt k) wr ∧ KeepX X W wr) (fun i _ => (t' + 1 - intOf i).toNat)
  case atStart => exact ⟨0, by simp, by omega, by rw [hw0]; exact h0, KeepX.refl _ _⟩
  case round =>
    obtain ⟨k, rfl, hk, hJm, hB⟩ := hrel
    have d1 := hB.cell h1 HX1.out
    have d2 := hB.cell h2 HX1.out
    have d3 := hB.cell h3 HX1.out
    have d5 := hB.cell h5 HX1.out
    have d4 := hB.cell h4 HX2.out
    have hlr := lt_of_cell d1
    have hsz := hB.size
    clear h1 h2 h3 h4 h5 h0
    by_cases hlt : t + (k : Nat) ≤ t'
    · have S1 := Lib.hid (fun w1 => SH.out (t + (k : Nat)) w1 (by omega) (by omega))
      have A1 := Lib.hid (fun w1 => AL.out (t + (k : Nat)) w1)
      obtain ⟨z, hz⟩ : ∃ z, shP m p (t + (k : Nat)) = z := ⟨_, rfl⟩
      rw [hz] at S1 A1
      have D1 := Lib.hid (fun w2 (q : Keeps wr w2) => HJ.out _ wr w2 none hJm ⟨q.os, q.tape, q.output, q.size, fun k' hk _ => q.block k' hk⟩ (fun r e => by cases e))
      cases hv : hitB m p (t, t', slo, shi) (t + (k : Nat)) with
      | false =>
        rw [hv] at A1
        have E1 := Lib.hid (HN1.out k hv)
        clear hv hz
        gi_wp2_with fail
        first | (gi_region_with_o (first | (gi_at_call 99; refine (S1.out _).mono ?_; rintro e w1 ⟨rfl, k1⟩; have c1 := k1.undrew.cell d1; have c2 := k1.undrew.cell d2; have c3 := k1.undrew.cell d3; have hl1 : b1 < w1.heap.size := lt_of_cell c1) | (gi_at_call 133; refine (A1.out _).mono ?_; rintro e w2 ⟨rfl, k2⟩))) | fail
        all_goals
          gi_wp2_with fail
          go_roundw
          case rel => exact ⟨k + 1, congrArg (Value.int .i64) (by omega), by omega, by rw [E1.out]; exact D1.out _ (k1.undrew.trans k2), hB.trans (KeepX.of_keeps (k1.undrew.trans k2))⟩
          case measure => simp only [intOf]; omega
      | true =>
        rw [hv] at A1
        have E1 := Lib.hid (HY1.out k hv)
        have hlen : (wt k).length < (warms m p (t, t', slo, shi)).length := by
          have := (HP.out (k + 1) (by omega)).length_le
          rw [E1.out, List.length_append] at this
          rw [HZ.out]
          exact Nat.lt_of_lt_of_le (Nat.lt_succ_self _) this
        have Y1 := Lib.hid (fun w2 (hj : J (wt k) w2) => HY.out (wt k) (t + (k : Nat)) w2 hj hlen)
        have P1 := Lib.hid (HP.out (k + 1) (by omega))
        clear hv hz hlen
        gi_wp2_with fail
        first | (gi_region_with_o (first | (gi_at_call 99; refine (S1.out _).mono ?_; rintro e w1 ⟨rfl, k1⟩; have c1 := k1.undrew.cell d1; have c2 := k1.undrew.cell d2; have c3 := k1.undrew.cell d3; have hl1 : b1 < w1.heap.size := lt_of_cell c1) | (gi_at_call 133; refine (A1.out _).mono ?_; rintro e w2 ⟨rfl, k2⟩; obtain ⟨fn, tmps, assign, body, hy, hR⟩ := Y1.out w2 (D1.out _ (k1.undrew.trans k2))) | (refine hR.mono ?_; intro e W3 h0; obtain ⟨b, rfl, hd⟩ : ∃ b, e = .returned (.bool b) ∧ ((b = true ∧ J (wt k ++ [t + (k : Nat)]) W3 ∧ KeepX X w2 W3) ∨ (b = false ∧ Jx (wt k ++ [t + (k : Nat)]) W3)) := h0.elim (fun h => ⟨true, h.1, .inl ⟨rfl, h.2⟩⟩) (fun h => ⟨false, h.1, .inr ⟨rfl, h.2⟩⟩); clear h0))) | fail
        all_goals
          rcases hd with ⟨rfl, hJ3, hk3⟩ | ⟨rfl, hJx3⟩
          · gi_wp2_with fail
            go_roundw
            case rel => exact ⟨k + 1, congrArg (Value.int .i64) (by omega), by omega, by rw [E1.out]; exact hJ3, (hB.trans (KeepX.of_keeps (k1.undrew.trans k2))).trans hk3⟩
            case measure => simp only [intOf]; omega
          · gi_wp2_with fail
            refine bodyPost_ret (results_none rfl _ _ _) rfl ?_
            exact ⟨⟨_, rfl⟩, .inr ⟨_, by rw [HZ.out, ← E1.out]; exact P1.out, hJx3⟩⟩
    · gi_wp2_with fail
      refine bodyPost_end (results_none rfl _ _ _) rfl ?_
      exact ⟨⟨_, rfl⟩, .inl (by
        rw [HZ.out, show (t' + 1 - t).toNat = k by omega]
        exact hJm)⟩
end Go.Proofs.Ytmhpgjlegajpeaa
