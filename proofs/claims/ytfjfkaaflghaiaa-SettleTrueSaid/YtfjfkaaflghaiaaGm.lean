/-
  LAW: SettleTrue: numbers drawn by remainders; a fall.
  LAW: SettleTrue: numbers of truly.
  LAW: SettleTrue: truly.
-/
import Derived.Test.YtfjfkaaflghaiaaGk
import Derived.Test.YtfjfkaaflghaiaaGb
namespace Go.Proofs.Ytfjfkaaflghaiaa
open Go.RowKit Go.Proofs.Try
attribute [local irreducible] Run wpK


/-- Numbers of 16 bits that came in. -/
def RowU (w : World) (a : Option Addr) (L : List Int) : Prop := L ≠ [] → ∃ b o, a = some ⟨b, o, none⟩ ∧ ∀ i, i < L.length → w.cell? ⟨b, o + i, none⟩ = some (.int .u16 (elI L i)) ∧ 0 ≤ elI L i ∧ elI L i ≤ 65535
/-- So, apart from a block. -/
def Us (w : World) (a : Option Addr) (L : List Int) (ba : Nat) : Prop := L ≠ [] → ∃ b o, a = some ⟨b, o, none⟩ ∧ b ≠ ba ∧ ∀ i, i < L.length → w.cell? ⟨b, o + i, none⟩ = some (.int .u16 (elI L i)) ∧ 0 ≤ elI L i ∧ elI L i ≤ 65535
theorem RowU.us {w w1 : World} {a : Option Addr} {L : List Int} (h : RowU w a L) (k : Keeps w w1) {ba : Nat} (hb : w.heap.size ≤ ba) : Us w1 a L ba := by
  intro hne
  obtain ⟨b, o, ha, hc⟩ := h hne
  refine ⟨b, o, ha, fun e => ?_, fun i hi => ⟨k.cell (hc i hi).1, (hc i hi).2⟩⟩
  have h1 := (hc 0 (List.length_pos_iff.2 hne)).1
  subst e
  unfold World.cell? at h1
  rw [Array.getElem?_eq_none hb] at h1
  cases h1
/-- What is drawn of a span, where i have been drawn. -/
def dwS (L : List Int) (i : Nat) (s : Sp) : Int := if L.length = 0 then s.1 else s.1 + (elI L (((i + 1 : Nat) : Int) % (L.length : Int)).toNat + 53 * ((i + 1 : Nat) : Int)) % (s.2 - s.1 + 1)
theorem dw_in (L : List Int) (i : Nat) {s : Sp} (h : s.1 ≤ s.2) : s.1 ≤ dwS L i s ∧ dwS L i s ≤ s.2 := by
  unfold dwS
  split
  · exact ⟨Int.le_refl _, h⟩
  · have h1 := Int.emod_nonneg (elI L (((i + 1 : Nat) : Int) % (L.length : Int)).toNat + 53 * ((i + 1 : Nat) : Int)) (show s.2 - s.1 + 1 ≠ 0 by omega)
    have h2 := Int.emod_lt_of_pos (elI L (((i + 1 : Nat) : Int) % (L.length : Int)).toNat + 53 * ((i + 1 : Nat) : Int)) (show 0 < s.2 - s.1 + 1 by omega)
    omega

theorem lt_ceil {a k c : Int} (hk : 0 < k) : c < (a + k - 1) / k ↔ c * k < a := by
  rw [show c < (a + k - 1) / k ↔ c + 1 ≤ (a + k - 1) / k from Iff.rfl, Int.le_ediv_iff_mul_le hk, Int.add_mul]
  omega
theorem mul_bd {c k : Int} (h0 : 0 ≤ c) (h1 : c ≤ 300000) (hk : 0 ≤ k) (h8 : k ≤ 8) : 0 ≤ c * k ∧ c * k ≤ 2400000 := ⟨Int.mul_nonneg h0 hk, by
  have := Int.mul_le_mul h1 h8 hk (by omega : (0 : Int) ≤ 300000)
  omega⟩
theorem fall_by {n k c : Int} (_hk : 1 ≤ k) (hc : c = (max n (-n) + k - 1) / k) : (n < 0 → n + c = fall n k) ∧ (¬ n < 0 → n - c = fall n k) := by
  unfold fall fallP
  constructor
  · intro h
    rw [if_pos h, hc, show max n (-n) = -n by omega]
    omega
  · intro h
    rw [if_neg h, hc, show max n (-n) = n by omega]
set_option maxRecDepth 100000 in
set_option maxHeartbeats 4000000 in
theorem draw_any (ba bb i cap : Nat) (lo hi : Int) (L : List Int) (aa : Option Addr) (l1 : -1000 ≤ lo) (l2 : lo ≤ hi) (l3 : hi ≤ 1000) (i2 : i ≤ 100000) (w : World) (hw : w.heap[ba]? = some (.cells #[.int .i64 ((i : Int))] 3 (0, 0))) (hbb : w.heap[bb]? = some (.cells #[.slice aa L.length cap] 44 (0, 0))) (hL : Us w aa L ba) (_hlm : L.length ≤ maxLen) : Calls Try.prog 65 #[.agg #[.int .i64 lo, .int .i64 hi], .pointer (some ⟨ba, 0, none⟩), .pointer (some ⟨bb, 0, none⟩)] w (Wr ba (.int .i64 (dwS L i (lo, hi))) (.cells #[.int .i64 (((i + 1 : Nat) : Int))] 3 (0, 0)) w) := by
  refine calls_run (fn := f65) (c := (f65.body).getD .skip) [.agg #[.int .i64 lo, .int .i64 hi], .pointer (some ⟨ba, 0, none⟩), .pointer (some ⟨bb, 0, none⟩)] func65 (by kernel_rfl) (fun x => x = ba) [(ba, .cells #[.int .i64 (i : Int)] 3 (0, 0))] (fun p hp => by rcases List.mem_singleton.1 hp with rfl; exact ⟨hw, rfl, rfl⟩) (List.pairwise_singleton _ _) 33 (by kernel_rfl) (by simp) ?_
  refine run_auto [] 2 [] [] [0, 1, 2] [0] (st' := ⟨[(0, .agg #[iV lo, iV hi]), (1, pA ba), (2, pA bb)], [(ba, aO #[iV (i : Int)] 3)]⟩) (acc := []) (by kernel_rfl) (by kernel_rfl) trivial ?_
  refine run_new (aO #[iV lo, iV hi] 23) (fun b1 => pA b1) (some 3) (fun _ => by kernel_rfl) (fun b1 hb1 => ?_)
  refine run_auto [(6, iV ((i + 1 : Nat) : Int))] 11 [] [1, 1] [1, 2, 3, 4] [0, 1] (st' := ⟨[(1, pA ba), (2, pA bb), (3, pA b1), (4, iV 0)], [(b1, aO #[iV lo, iV hi] 23), (ba, aO #[iV ((i + 1 : Nat) : Int)] 3)]⟩) (acc := [(pA ba, pA ba), (iV (IntKind.i64.wrap ((i : Int) + 1)), iV ((i + 1 : Nat) : Int)), (pA ba, pA ba)]) (by kernel_rfl) (by kernel_rfl) ⟨rfl, (wr (by omega) (by omega)), rfl, trivial⟩ ?_
  refine run_v (Instr.loadAt 44 (pA bb) >>= fun v => pure (Next.value v)) (some 7) (.slice aa L.length cap) (by kernel_rfl) (fun w1 k1 h1 => load_in (base := 0) (off := 0) k1 (fun h => by rw [h, hw] at hbb; cases hbb) [.slice aa L.length cap] (fun i u hi => by rw [Nat.zero_add]; exact cells_of_heap hbb i u hi) (by kernel_rfl)) ?_
  cases hd1 : ((L.length : Int) == 0) with
  | false =>
    have hp1 : ¬ (L.length : Int) = 0 := by simpa using hd1
    have h0 : L.length ≠ 0 := by intro h; rw [h] at hd1; cases hd1
    obtain ⟨j, hj⟩ : ∃ j : Nat, j = (((i + 1 : Nat) : Int) % (L.length : Int)).toNat := ⟨_, rfl⟩
    have hj2 : ((i + 1 : Nat) : Int) % (L.length : Int) = (j : Int) := by rw [hj]; exact (Int.toNat_of_nonneg (Int.emod_nonneg _ (by omega))).symm
    have hjl : j < L.length := by have := Int.emod_lt_of_pos ((i + 1 : Nat) : Int) (show (0 : Int) < (L.length : Int) by omega); omega
    obtain ⟨b, o, haa, hnb, hc⟩ := hL (by intro h; rw [h] at hjl; cases hjl)
    have hc := hc j hjl
    obtain ⟨v2, hv2⟩ : ∃ v2, (elI L j + 53 * ((i + 1 : Nat) : Int)) % (hi - lo + 1) = v2 := ⟨_, rfl⟩
    have hv2a := Int.emod_nonneg (elI L j + 53 * ((i + 1 : Nat) : Int)) (show hi - lo + 1 ≠ 0 by omega)
    have hv2b := Int.emod_lt_of_pos (elI L j + 53 * ((i + 1 : Nat) : Int)) (show 0 < hi - lo + 1 by omega)
    rw [hv2] at hv2a hv2b
    refine run_auto [(9, .bool false)] 6 [false] [] [1, 2, 3, 4] [0, 1] (st' := ⟨[(1, pA ba), (2, pA bb), (3, pA b1), (4, iV 0)], [(b1, aO #[iV lo, iV hi] 23), (ba, aO #[iV ((i + 1 : Nat) : Int)] 3)]⟩) (acc := [(.bool false, .bool false), (.bool ((L.length : Int) == 0), .bool false)]) (by kernel_rfl) (by kernel_rfl) ⟨rfl, (bo hd1), trivial⟩ ?_
    refine drawW 22 [{ val := fun _ => pA b1, slots := [3] },
          { val := fun _ => iV lo, slots := [12], reads := [0] },
          { val := fun _ => .slice aa L.length cap, slots := [2] },
          { val := fun _ => iV ((i + 1 : Nat) : Int), slots := [1], reads := [1] },
          { val := fun _ => .slice aa L.length cap, slots := [2] },
          { val := fun _ => iV (L.length : Int), slots := [16] },
          { val := fun _ => iV (j : Int), slots := [15, 17] },
          { val := fun _ => .pointer (some ⟨b, o + j, none⟩), slots := [14, 18] },
          { val := fun _ => .int .u16 (elI L j), slots := [19] },
          { val := fun _ => iV (elI L j), slots := [20] },
          { val := fun _ => iV ((i + 1 : Nat) : Int), slots := [1], reads := [1] },
          { val := fun _ => iV (53 * ((i + 1 : Nat) : Int)), slots := [22] },
          { val := fun _ => iV ((elI L j) + (53 * ((i + 1 : Nat) : Int))), slots := [21, 23] },
          { val := fun _ => .pointer (some ⟨b1, 1, none⟩), slots := [3] },
          { val := fun _ => iV hi, slots := [25], reads := [0] },
          { val := fun _ => pA b1, slots := [3] },
          { val := fun _ => iV lo, slots := [27], reads := [0] },
          { val := fun _ => iV (hi - lo), slots := [26, 28] },
          { val := fun _ => iV ((hi - lo) + 1), slots := [29] },
          { val := fun _ => iV v2, slots := [24, 30] },
          { val := fun _ => iV (lo + v2), slots := [13, 31] },
          { val := fun _ => iV (lo + v2), slots := [32] }] [[], [0], [], [], [], [4], [3, 4, 5], [2, 3, 4, 5, 6], [2, 3, 4, 5, 6, 7], [2, 3, 4, 5, 6, 7, 8], [], [10], [2, 3, 4, 5, 6, 7, 8, 9, 10, 11], [], [13], [], [15], [13, 14, 15, 16], [13, 14, 15, 16, 17], [2, 3, 4, 5, 6, 7, 8, 9, 10, 11, 12, 13, 14, 15, 16, 17, 18], [0, 1, 2, 3, 4, 5, 6, 7, 8, 9, 10, 11, 12, 13, 14, 15, 16, 17, 18, 19], [0, 1, 2, 3, 4, 5, 6, 7, 8, 9, 10, 11, 12, 13, 14, 15, 16, 17, 18, 19, 20]] (by kernel_rfl) (by kernel_rfl) (by kernel_rfl) (by kernel_rfl) [4] [1] (by kernel_rfl)
          ⟨⟨⟨⟨⟨⟨⟨⟨⟨⟨⟨⟨⟨⟨⟨⟨⟨⟨⟨⟨⟨⟨trivial,
          tri_quietW (fun β => []) [] [] (fun β => []) (by kernel_rfl) (fun β extra => by kernel_rfl) (by kernel_rfl) (fun β => trivial)⟩,
          tri_quietW (fun β => []) [0] [0] (fun β => [(pA b1, pA b1)]) (by kernel_rfl) (fun β extra => by kernel_rfl) (by kernel_rfl) (fun β => ⟨rfl, trivial⟩)⟩,
          tri_vVW (fun β => .slice aa L.length cap) (fun β => by kernel_rfl) (fun β => (Instr.loadAt 44 (pA bb) >>= fun v => pure (Next.value v))) (by kernel_rfl) (fun β extra => by kernel_rfl) (fun β => by kernel_rfl) (fun β w1 k1 h1 => load_in (base := 0) (off := 0) k1 (fun h => by rw [h, hw] at hbb; cases hbb) [.slice aa L.length cap] (fun i u hi => by rw [Nat.zero_add]; exact cells_of_heap hbb i u hi) (by kernel_rfl))⟩,
          tri_quietW (fun β => []) [0] [0] (fun β => [(pA ba, pA ba)]) (by kernel_rfl) (fun β extra => by kernel_rfl) (by kernel_rfl) (fun β => ⟨rfl, trivial⟩)⟩,
          tri_vVW (fun β => .slice aa L.length cap) (fun β => by kernel_rfl) (fun β => (Instr.loadAt 44 (pA bb) >>= fun v => pure (Next.value v))) (by kernel_rfl) (fun β extra => by kernel_rfl) (fun β => by kernel_rfl) (fun β w1 k1 h1 => load_in (base := 0) (off := 0) k1 (fun h => by rw [h, hw] at hbb; cases hbb) [.slice aa L.length cap] (fun i u hi => by rw [Nat.zero_add]; exact cells_of_heap hbb i u hi) (by kernel_rfl))⟩,
          tri_quietW (fun β => []) [] [] (fun β => []) (by kernel_rfl) (fun β extra => by kernel_rfl) (by kernel_rfl) (fun β => trivial)⟩,
          tri_vVW (fun β => iV (j : Int)) (fun β => by kernel_rfl) (fun β => (binOp .rem 3 (iV ((i + 1 : Nat) : Int)) (iV (L.length : Int)) >>= fun v => pure (Next.value v))) (by kernel_rfl) (fun β extra => by kernel_rfl) (fun β => by kernel_rfl) (fun β w1 k1 h1 => (by have h := rem_run (P := Try.prog) (w := w1) (t := 3) ((i + 1 : Nat) : Int) (L.length : Int) (by omega) (by omega); rw [hj2] at h; exact h))⟩,
          tri_vVW (fun β => .pointer (some ⟨b, o + j, none⟩)) (fun β => by kernel_rfl) (fun β => (Instr.indexAt 44 (.slice aa L.length cap) (iV (j : Int)) >>= fun v => pure (Next.value v))) (by kernel_rfl) (fun β extra => by kernel_rfl) (fun β => by kernel_rfl) (fun β w1 k1 h1 => (by rw [haa]; exact idx_off (e := 101) (n := 1) (by kernel_rfl) (by kernel_rfl) b o L.length cap .i64 j hjl (o + j) (by omega) w1))⟩,
          tri_vVW (fun β => .int .u16 (elI L j)) (fun β => by kernel_rfl) (fun β => (Instr.loadAt 101 (.pointer (some ⟨b, o + j, none⟩)) >>= fun v => pure (Next.value v))) (by kernel_rfl) (fun β extra => by kernel_rfl) (fun β => by kernel_rfl) (fun β w1 k1 h1 => load_in (off := 0) k1 hnb [.int .u16 (elI L j)] (c1 hc.1) (by kernel_rfl))⟩,
          tri_quietW (fun β => [(21, iV (elI L j))]) [] [] (fun β => [(iV (IntKind.i64.wrap (elI L j)), iV (elI L j))]) (by kernel_rfl) (fun β extra => by kernel_rfl) (by kernel_rfl) (fun β => ⟨(wr (by omega) (by omega)), trivial⟩)⟩,
          tri_quietW (fun β => []) [0] [0] (fun β => [(pA ba, pA ba)]) (by kernel_rfl) (fun β extra => by kernel_rfl) (by kernel_rfl) (fun β => ⟨rfl, trivial⟩)⟩,
          tri_quietW (fun β => [(23, iV (53 * ((i + 1 : Nat) : Int)))]) [] [] (fun β => [(iV (IntKind.i64.wrap (53 * ((i + 1 : Nat) : Int))), iV (53 * ((i + 1 : Nat) : Int)))]) (by kernel_rfl) (fun β extra => by kernel_rfl) (by kernel_rfl) (fun β => ⟨(wr (by omega) (by omega)), trivial⟩)⟩,
          tri_quietW (fun β => [(24, iV ((elI L j) + (53 * ((i + 1 : Nat) : Int))))]) [] [] (fun β => [(iV (IntKind.i64.wrap ((elI L j) + (53 * ((i + 1 : Nat) : Int)))), iV ((elI L j) + (53 * ((i + 1 : Nat) : Int))))]) (by kernel_rfl) (fun β extra => by kernel_rfl) (by kernel_rfl) (fun β => ⟨(wr (by omega) (by omega)), trivial⟩)⟩,
          tri_quietW (fun β => []) [] [] (fun β => []) (by kernel_rfl) (fun β extra => by kernel_rfl) (by kernel_rfl) (fun β => trivial)⟩,
          tri_quietW (fun β => []) [0] [0] (fun β => [(pA b1, pA b1)]) (by kernel_rfl) (fun β extra => by kernel_rfl) (by kernel_rfl) (fun β => ⟨rfl, trivial⟩)⟩,
          tri_quietW (fun β => []) [] [] (fun β => []) (by kernel_rfl) (fun β extra => by kernel_rfl) (by kernel_rfl) (fun β => trivial)⟩,
          tri_quietW (fun β => []) [0] [0] (fun β => [(pA b1, pA b1)]) (by kernel_rfl) (fun β extra => by kernel_rfl) (by kernel_rfl) (fun β => ⟨rfl, trivial⟩)⟩,
          tri_quietW (fun β => [(29, iV (hi - lo))]) [] [] (fun β => [(iV (IntKind.i64.wrap (hi - lo)), iV (hi - lo))]) (by kernel_rfl) (fun β extra => by kernel_rfl) (by kernel_rfl) (fun β => ⟨(wr (by omega) (by omega)), trivial⟩)⟩,
          tri_quietW (fun β => [(30, iV ((hi - lo) + 1))]) [] [] (fun β => [(iV (IntKind.i64.wrap ((hi - lo) + 1)), iV ((hi - lo) + 1))]) (by kernel_rfl) (fun β extra => by kernel_rfl) (by kernel_rfl) (fun β => ⟨(wr (by omega) (by omega)), trivial⟩)⟩,
          tri_vVW (fun β => iV v2) (fun β => by kernel_rfl) (fun β => (binOp .rem 3 (iV ((elI L j) + (53 * ((i + 1 : Nat) : Int)))) (iV ((hi - lo) + 1)) >>= fun v => pure (Next.value v))) (by kernel_rfl) (fun β extra => by kernel_rfl) (fun β => by kernel_rfl) (fun β w1 k1 h1 => (by have h := rem_run (P := Try.prog) (w := w1) (t := 3) ((elI L j) + (53 * ((i + 1 : Nat) : Int))) ((hi - lo) + 1) (by omega) (by omega); rw [hv2] at h; exact h))⟩,
          tri_quietW (fun β => [(32, iV (lo + v2))]) [] [] (fun β => [(iV (IntKind.i64.wrap (lo + v2)), iV (lo + v2))]) (by kernel_rfl) (fun β extra => by kernel_rfl) (by kernel_rfl) (fun β => ⟨(wr (by omega) (by omega)), trivial⟩)⟩,
          tri_quietW (fun β => []) [] [] (fun β => []) (by kernel_rfl) (fun β extra => by kernel_rfl) (by kernel_rfl) (fun β => trivial)⟩
          (fun β => ⟨[(4, iV (lo + v2))], [(ba, aO #[iV ((i + 1 : Nat) : Int)] 3)]⟩) (fun β => by kernel_rfl) (fun β2 => ?_)
    refine run_end (fn := f65) rfl (Nat.le_refl _) (by kernel_rfl) [] [iV (lo + v2)] (e := []) (by kernel_rfl) trivial (fun w1 k1 h1 => ?_)
    exact ⟨by rw [show dwS L i (lo, hi) = (lo + v2) from by unfold dwS; rw [if_neg h0, ← hj]; dsimp only; rw [hv2]]; rfl, k1, h1 (ba, _) (List.mem_of_getElem? (i := 0) rfl)⟩
  | true =>
    have hp1 : (L.length : Int) = 0 := by simpa using hd1
    have h0 : L.length = 0 := by have := hd1; simp at this; rw [this]; rfl
    refine run_auto [(9, .bool true)] 10 [true] [0] [1, 2, 3, 4] [0, 1] (st' := ⟨[(1, pA ba), (2, pA bb), (3, pA b1), (4, iV lo)], [(b1, aO #[iV lo, iV hi] 23), (ba, aO #[iV ((i + 1 : Nat) : Int)] 3)]⟩) (acc := [(pA b1, pA b1), (.bool true, .bool true), (.bool ((L.length : Int) == 0), .bool true)]) (by kernel_rfl) (by kernel_rfl) ⟨rfl, rfl, (bo hd1), trivial⟩ ?_
    refine run_end (fn := f65) rfl (Nat.le_refl _) (by kernel_rfl) [] [iV lo] (e := []) (by kernel_rfl) trivial (fun w1 k1 h1 => ?_)
    exact ⟨by rw [show dwS L i (lo, hi) = lo from by unfold dwS; rw [if_pos h0]]; rfl, k1, h1 (ba, _) (List.mem_of_getElem? (i := 1) rfl)⟩

set_option maxRecDepth 100000 in
theorem falls_any (n k : Int) (n1 : -200000 ≤ n) (n2 : n ≤ 200000) (k1_ : 1 ≤ k) (k2 : k ≤ 8) (w : World)  : Calls Try.prog 66 #[.int .i64 n, .int .i64 k] w (RetI (fall n k) w) := by
  have hce := up_bd (x := max n (-n)) (k := k) (by omega) k1_
  refine calls_run (fn := f66) (c := (f66.body).getD .skip) [.int .i64 n, .int .i64 k] func66 (by kernel_rfl) (fun _ => False) [] (fun _ h => by cases h) (List.Pairwise.nil) 24 (by kernel_rfl) (by simp) ?_
  refine run_auto [] 10 [] [] [0, 1, 4, 5] [] (st' := ⟨[(0, iV n), (1, iV k), (4, iV 0), (5, iV 0)], []⟩) (acc := []) (by kernel_rfl) (by kernel_rfl) trivial ?_
  refine run_auto [] 0 [] [] [0, 1, 4, 5] [] (st' := ⟨[(0, iV n), (1, iV k), (4, iV 0), (5, iV 0)], []⟩) (acc := []) (by kernel_rfl) (by kernel_rfl) trivial ?_
  refine run_loop (S := fun (c : Int) => ⟨[(0, iV n), (1, iV k), (4, iV 0), (5, iV c)], []⟩) (fun c => 0 ≤ c ∧ c ≤ (max n (-n) + k - 1) / k) (fun c => ((max n (-n) + k - 1) / k - c).toNat) (0) (by kernel_rfl) (⟨Int.le_refl _, hce.1⟩) (by kernel_rfl) (fun c hI0 J0 hJ0 => ?_)
  obtain ⟨hA1, hA2⟩ := hI0
  have hmb := mul_bd hA1 (by omega) (by omega) k2
  have hlc := lt_ceil (a := max n (-n)) (k := k) (c := c) (by omega)
  obtain ⟨ck, hck⟩ : ∃ x, c * k = x := ⟨_, rfl⟩
  rw [hck] at hmb hlc
  cases hd1 : (decide (ck < (max n (-n)))) with
  | false =>
    have hp1 := of_decide_eq_false hd1
    have hce2 : c = (max n (-n) + k - 1) / k := by omega
    obtain ⟨hf1, hf2⟩ := fall_by (n := n) (by omega) hce2
    cases hd2 : (decide (n < 0)) with
    | false =>
      have hp2 := of_decide_eq_false hd2
      refine run_auto [(8, iV ck), (11, iV (-n)), (12, iV (max n (-n))), (13, .bool false), (17, .bool false), (23, iV (n - c))] 29 [false, false] [] [4] [] (st' := ⟨[(4, iV (n - c))], []⟩) (acc := [(iV (IntKind.i64.wrap (n - c)), iV (n - c)), (.bool false, .bool false), (.bool (decide (n < 0)), .bool false), (.bool false, .bool false), (.bool (decide (ck < (max n (-n)))), .bool false), (iV (if (-n) > n then (-n) else n), iV (max n (-n))), (iV (IntKind.i64.wrap (0 - n)), iV (-n)), (iV (IntKind.i64.wrap (c * k)), iV ck)]) (by kernel_rfl) (by kernel_rfl) ⟨(wr (by omega) (by omega)), rfl, (bo hd2), rfl, (bo hd1), (mx _ _ _), ((wr (by omega) (by omega)).trans (io (by omega))), ((wr (by omega) (by omega)).trans (io hck)), trivial⟩ ?_
      refine run_end (fn := f66) rfl (Nat.le_refl _) (by kernel_rfl) [] [iV (n - c)] (e := []) (by kernel_rfl) trivial (fun w1 k1 h1 => ?_)
      exact ⟨by rw [← hf2 (by omega)]; rfl, k1.keeps (fun _ h => h)⟩
    | true =>
      have hp2 := of_decide_eq_true hd2
      refine run_auto [(8, iV ck), (11, iV (-n)), (12, iV (max n (-n))), (13, .bool false), (17, .bool true), (20, iV (n + c))] 28 [false, true] [] [0, 4, 5] [] (st' := ⟨[(0, iV n), (4, iV (n + c)), (5, iV c)], []⟩) (acc := [(iV (IntKind.i64.wrap (n + c)), iV (n + c)), (.bool true, .bool true), (.bool (decide (n < 0)), .bool true), (.bool false, .bool false), (.bool (decide (ck < (max n (-n)))), .bool false), (iV (if (-n) > n then (-n) else n), iV (max n (-n))), (iV (IntKind.i64.wrap (0 - n)), iV (-n)), (iV (IntKind.i64.wrap (c * k)), iV ck)]) (by kernel_rfl) (by kernel_rfl) ⟨(wr (by omega) (by omega)), rfl, (bo hd2), rfl, (bo hd1), (mx _ _ _), ((wr (by omega) (by omega)).trans (io (by omega))), ((wr (by omega) (by omega)).trans (io hck)), trivial⟩ ?_
      refine run_end (fn := f66) rfl (Nat.le_refl _) (by kernel_rfl) [] [iV (n + c)] (e := []) (by kernel_rfl) trivial (fun w1 k1 h1 => ?_)
      exact ⟨by rw [← hf1 (by omega)]; rfl, k1.keeps (fun _ h => h)⟩
  | true =>
    have hp1 := of_decide_eq_true hd1
    refine run_auto [(8, iV ck), (11, iV (-n)), (12, iV (max n (-n))), (13, .bool true), (15, iV (c + 1))] 21 [true] [] [0, 1, 4, 5] [] (st' := ⟨[(0, iV n), (1, iV k), (4, iV 0), (5, iV (c + 1))], []⟩) (acc := [(iV (IntKind.i64.wrap (c + 1)), iV (c + 1)), (.bool true, .bool true), (.bool (decide (ck < (max n (-n)))), .bool true), (iV (if (-n) > n then (-n) else n), iV (max n (-n))), (iV (IntKind.i64.wrap (0 - n)), iV (-n)), (iV (IntKind.i64.wrap (c * k)), iV ck)]) (by kernel_rfl) (by kernel_rfl) ⟨(wr (by omega) (by omega)), rfl, (bo hd1), (mx _ _ _), ((wr (by omega) (by omega)).trans (io (by omega))), ((wr (by omega) (by omega)).trans (io hck)), trivial⟩ ?_
    exact run_round (by kernel_rfl) (hJ0 (c + 1) (⟨by omega, by omega⟩) (by omega))

end Go.Proofs.Ytfjfkaaflghaiaa

namespace Go.Proofs.Ytfjfkaaflghaiaa
open Go.RowKit Go.Proofs.Try
attribute [local irreducible] Run wpK


/-- The excess after some touches of a minute, where c have been drawn before. -/
def inS (L : List Int) (ts : List Tc) (b m : Int) (c : Nat) (x : Int) : Nat → Int
  | 0 => x
  | i + 1 => bif isAt b m (elT ts i) then inS L ts b m c x i + dwS L (c + i) (elT ts i).2.2 else inS L ts b m c x i
theorem inS_yes {L : List Int} {ts : List Tc} {b m : Int} {c : Nat} {x : Int} {i : Nat} (h : isAt b m (elT ts i) = true) : inS L ts b m c x (i + 1) = inS L ts b m c x i + dwS L (c + i) (elT ts i).2.2 := by
  show (bif isAt b m (elT ts i) then _ else _) = _
  rw [h]
  rfl
theorem inS_no {L : List Int} {ts : List Tc} {b m : Int} {c : Nat} {x : Int} {i : Nat} (h : isAt b m (elT ts i) = false) : inS L ts b m c x (i + 1) = inS L ts b m c x i := by
  show (bif isAt b m (elT ts i) then _ else _) = _
  rw [h]
  rfl
def stM (x k : Int) (m : Nat) : Int := bif Nat.blt 0 m then fall x k else x
/-- The excess at the beginning of a minute, before it falls. -/
def trP (L : List Int) (s : Sn) (b : Nat) (s0 k : Int) : Nat → Int
  | 0 => s0
  | m + 1 => inS L s.ts b m (2 + s.ts.length * m) (stM (trP L s b s0 k m) k m) s.ts.length
theorem stM_pos {x k : Int} {m : Nat} (h : 0 < m) : stM x k m = fall x k := by
  cases m with
  | zero => exact absurd h (Nat.lt_irrefl _)
  | succ n => rfl
theorem stM_zero {x k : Int} {m : Nat} (h : ¬ 0 < m) : stM x k m = x := by
  cases m with
  | zero => rfl
  | succ n => exact absurd (Nat.succ_pos n) h
theorem heat_app (x : Int) (l : List Int) (a : Int) : heat x (l ++ [a]) = heat x l + a := by
  unfold heat
  rw [List.foldl_append]
  rfl
theorem inS_in {s : Sn} (hF : s.Fine) (L : List Int) (b m : Int) (c : Nat) {x lo hi : Int} (h : lo ≤ x ∧ x ≤ hi) : ∀ i, i ≤ s.ts.length → heat lo (hL (s.ts.take i) b m false) ≤ inS L s.ts b m c x i ∧ inS L s.ts b m c x i ≤ heat hi (hL (s.ts.take i) b m true)
  | 0, _ => h
  | i + 1, hi' => by
    have h1 := inS_in hF L b m c h i (by omega)
    have hil : i < s.ts.length := hi'
    have ht := (hF.tcF hil).h
    have hd := dw_in L (c + i) (s := (elT s.ts i).2.2) ht.2.1
    have e : s.ts.take (i + 1) = s.ts.take i ++ [elT s.ts i] := by rw [elT_at hil]; exact List.take_succ_eq_append_getElem hil
    have ef : ∀ f, hL (s.ts.take (i + 1)) b m f = hL (s.ts.take i) b m f ++ (bif isAt b m (elT s.ts i) then [hs f (elT s.ts i)] else []) := fun f => by
      unfold hL
      rw [e, List.filter_append, List.map_append]
      cases hp : isAt b m (elT s.ts i) with
      | true => rw [List.filter_cons_of_pos hp]; rfl
      | false => rw [List.filter_cons_of_neg (by rw [hp]; simp)]; rfl
    rw [ef, ef]
    cases hp : isAt b m (elT s.ts i) with
    | true =>
      rw [inS_yes hp]
      simp only [cond_true]
      rw [heat_app, heat_app]
      have e1 : hs false (elT s.ts i) = (elT s.ts i).2.2.1 := rfl
      have e2 : hs true (elT s.ts i) = (elT s.ts i).2.2.2 := rfl
      omega
    | false =>
      rw [inS_no hp]
      simp only [cond_false, List.append_nil]
      exact h1
theorem inS_bd {s : Sn} (hF : s.Fine) (L : List Int) (b m : Int) (c : Nat) {x d : Int} (h : -d ≤ x ∧ x ≤ d) : ∀ i, i ≤ s.ts.length → -(d + 100 * (i : Int)) ≤ inS L s.ts b m c x i ∧ inS L s.ts b m c x i ≤ d + 100 * (i : Int)
  | 0, _ => by show -(d + 100 * (0 : Int)) ≤ x ∧ x ≤ d + 100 * (0 : Int); omega
  | i + 1, hi' => by
    have h1 := inS_bd hF L b m c h i (by omega)
    have hil : i < s.ts.length := hi'
    have ht := (hF.tcF hil).h
    have hd := dw_in L (c + i) (s := (elT s.ts i).2.2) ht.2.1
    cases hp : isAt b m (elT s.ts i) with
    | true => rw [inS_yes hp]; omega
    | false => rw [inS_no hp]; omega
/-- What it truly is in each minute is between both ends. -/
theorem tr_in {s : Sn} (hF : s.Fine) (L : List Int) {b : Nat} {s0 k : Int} (hk : 1 ≤ k) (hs0 : (elB s.bs b).1 ≤ s0 ∧ s0 ≤ (elB s.bs b).2.1) : ∀ m, s.lo b k m ≤ trP L s b s0 k (m + 1) ∧ trP L s b s0 k (m + 1) ≤ s.hi b k m
  | 0 => by
    have h := inS_in hF L (b : Int) ((0 : Nat) : Int) (2 + s.ts.length * 0) hs0 s.ts.length (Nat.le_refl _)
    rw [List.take_length] at h
    exact h
  | m + 1 => by
    have h0 := tr_in hF L hk hs0 m
    have h := inS_in hF L (b : Int) ((m + 1 : Nat) : Int) (2 + s.ts.length * (m + 1)) (lo := fall (s.lo b k m) k) (hi := fall (s.hi b k m) k) (x := stM (trP L s b s0 k (m + 1)) k (m + 1)) ⟨fall_mono hk h0.1, fall_mono hk h0.2⟩ s.ts.length (Nat.le_refl _)
    rw [List.take_length] at h
    exact h
theorem tr_bd {s : Sn} (hF : s.Fine) (L : List Int) {b : Nat} (hb : b < s.bs.length) {s0 k : Int} (hk : 1 ≤ k) (hs0 : (elB s.bs b).1 ≤ s0 ∧ s0 ≤ (elB s.bs b).2.1) : ∀ m, m ≤ 61 → -60000 ≤ trP L s b s0 k m ∧ trP L s b s0 k m ≤ 60000
  | 0, _ => by
    have hx := (hF.bkF hb).x
    show -60000 ≤ s0 ∧ s0 ≤ 60000
    omega
  | m + 1, hm => by
    have h := tr_in hF L hk hs0 m
    have hx := (hF.bkF hb).x
    have h1 := endN_bd hF hk (st := (elB s.bs b).1) (by omega) b false m
    have h2 := endN_bd hF hk (st := (elB s.bs b).2.1) (by omega) b true m
    unfold Sn.lo Sn.hi at h
    omega
/-- The numbers of minutes. -/
def lnT (T : Nat → Int) (m : Nat) : List Int := (List.range m).map fun i => T (i + 1)
theorem lnT_len (T : Nat → Int) (m : Nat) : (lnT T m).length = m := by unfold lnT; rw [List.length_map, List.length_range]
theorem lnT_next (T : Nat → Int) (m : Nat) : lnT T (m + 1) = lnT T m ++ [T (m + 1)] := by unfold lnT; rw [List.range_succ, List.map_append]; rfl
theorem lnT_at (T : Nat → Int) {m i : Nat} (h : i < m) : elI (lnT T m) i = T (i + 1) := by
  unfold elI lnT
  rw [List.getElem?_map, List.getElem?_range h]
  rfl
/-- What is told of a truth. -/
theorem true_in {s : Sn} (hF : s.Fine) (L : List Int) {b : Nat} (hb : b < s.bs.length) {s0 k : Int} (hk : (elB s.bs b).2.2.1 ≤ k ∧ k ≤ (elB s.bs b).2.2.2.1) (hs0 : (elB s.bs b).1 ≤ s0 ∧ s0 ≤ (elB s.bs b).2.1) {m : Nat} (hm : m ≤ 60) {n j : Int} (hn : trP L s b s0 k (m + 1) = n) (hj : s.judge b m = j) : (s.out b m).1 ≤ n ∧ n ≤ (s.out b m).2 ∧ (j = 2 → -s.near ≤ n ∧ n ≤ s.near) ∧ (j = 0 → ¬ (-s.near ≤ n ∧ n ≤ s.near)) := by
  have hB := hF.bkF hb
  have hBs := hB.s
  have hw := slW_is hB
  obtain ⟨i, hi⟩ : ∃ i : Nat, k = slN (elB s.bs b) i := ⟨(k - (elB s.bs b).2.2.1).toNat, by unfold slN; omega⟩
  have hiw : i < slW (elB s.bs b) := by unfold slN at hi; omega
  have h1 := tr_in hF L (b := b) (k := k) (by omega) hs0 m
  rw [hn] at h1
  have ho := (out_is hF hb (m := m) (by omega)).1 i hiw
  rw [← hi] at ho
  have e1 : (s.en b k m).1 = s.lo b k m := rfl
  have e2 : (s.en b k m).2 = s.hi b k m := rfl
  rw [e1, e2] at ho
  have hjo := jo_is hF hb (m := m) (by omega) hj
  refine ⟨by omega, by omega, fun h2 => by have := hjo.1.1 h2; omega, fun h0 => ?_⟩
  have hz : s.jd b m i = 0 := by
    have hz0 : ∀ q, q < slW (elB s.bs b) → s.jd b m q = s.jd b m 0 := by
      intro q hq
      by_cases hall : ∀ q, q < slW (elB s.bs b) → s.jd b m q = s.jd b m 0
      · exact hall q hq
      · have : s.judge b m = 1 := if_neg hall
        omega
    rw [hz0 i hiw, ← judge_all hz0, hj, h0]
  unfold Sn.jd jdE at hz
  rw [← hi] at hz
  split at hz
  · omega
  · split at hz
    · rename_i h3 h4
      rw [e1, e2] at h4
      omega
    · omega
theorem dwn_mono {x y : Int} (h : x ≤ y) : dwn x ≤ dwn y := Int.ediv_le_ediv (by omega) h
/-- By how much it is truly longer. -/
theorem lon_in {e g : Sp} {n v : Int} (hn : e.1 ≤ n ∧ n ≤ e.2) (hg0 : 0 ≤ g.1) (hg : g.1 ≤ v ∧ v ≤ g.2) : (lonS e g).1 ≤ dwn (n * v) ∧ dwn (n * v) ≤ (lonS e g).2 := by
  unfold lonS
  dsimp only
  have two : ∀ z : Int, (g.1 * z ≤ v * z ∨ g.2 * z ≤ v * z) ∧ (v * z ≤ g.1 * z ∨ v * z ≤ g.2 * z) := fun z => by
    rcases Int.le_total 0 z with hz | hz
    · exact ⟨.inl (Int.mul_le_mul_of_nonneg_right hg.1 hz), .inr (Int.mul_le_mul_of_nonneg_right hg.2 hz)⟩
    · exact ⟨.inr (Int.mul_le_mul_of_nonpos_right hg.2 hz), .inl (Int.mul_le_mul_of_nonpos_right hg.1 hz)⟩
  have hv : 0 ≤ v := by omega
  have c1 := dwn_mono (Int.mul_le_mul_of_nonneg_left hn.1 hv)
  have c2 := dwn_mono (Int.mul_le_mul_of_nonneg_left hn.2 hv)
  rw [Int.mul_comm n v]
  constructor
  · rcases (two e.1).1 with h | h
    · have := dwn_mono h; omega
    · have := dwn_mono h; omega
  · rcases (two e.2).2 with h | h
    · have := dwn_mono h; omega
    · have := dwn_mono h; omega
end Go.Proofs.Ytfjfkaaflghaiaa

namespace Go.Proofs.Ytfjfkaaflghaiaa
open Go.RowKit Go.Proofs.Try
attribute [local irreducible] Run wpK

set_option maxRecDepth 100000 in
set_option maxHeartbeats 4000000 in
theorem truly_any (p : Sb) (b : Nat) (L : List Int) (aa : Option Addr) (lc : Nat) (w : World) (hp : p.In w) (hok : p.n.ok = true) (hbl : b < p.bs.length) (hU : RowU w aa L) (hlm : L.length ≤ maxLen) : Calls Try.prog 23 #[.agg #[.slice p.ba p.bs.length p.bc, .int .i64 p.near, .int .i64 p.last, .slice p.ta p.ts.length p.tc], .int .i64 (b : Int), .slice aa L.length lc] w (NwL (α := Nat × Nat × List Value) (fun x_ => .tuple #[.slice (some ⟨(x_.1), 0, none⟩) (p.n.N + 1) (x_.2.1), .int .i64 (dwS L (2 + p.ts.length * (p.n.N + 1)) (elB p.bs b).2.2.2.2)]) (fun x_ => [((x_.1), .cells ((lnT (trP L p.n b (dwS L 0 ((elB p.bs b).1, (elB p.bs b).2.1)) (dwS L (0 + 1) ((elB p.bs b).2.2.1, (elB p.bs b).2.2.2.1))) (p.n.N + 1)).flatMap inR ++ (x_.2.2)).toArray 3 (0, 0))]) (fun _ => True) w) := by
  have hF := Sn.fine hok
  have hln := lastN_is hok
  have hl2 : 1 ≤ p.last ∧ p.last ≤ 60 := hln
  have hNl : p.last = (p.n.N : Int) := hF.lastN
  have ht6 : p.ts.length ≤ 8 := hF.t6
  have hB : BkF (elB p.bs b) := hF.bkF hbl
  have hBx := hB.x
  have hBs := hB.s
  have hBg := hB.g
  have hml : (1000000 : Nat) ≤ maxLen := by simp only [maxLen]; omega
  have hlb := hp.lb
  have hlt0 := hp.lt
  simp only [maxLen] at hlb hlt0
  have hd0 := dw_in L 0 (s := ((elB p.bs b).1, (elB p.bs b).2.1)) hBx.2.1
  have hd1 := dw_in L (0 + 1) (s := ((elB p.bs b).2.2.1, (elB p.bs b).2.2.2.1)) hBs.2.1
  dsimp only at hd0 hd1
  obtain ⟨T, hT⟩ : ∃ T : Nat → Int, trP L p.n b (dwS L 0 ((elB p.bs b).1, (elB p.bs b).2.1)) (dwS L (0 + 1) ((elB p.bs b).2.2.1, (elB p.bs b).2.2.2.1)) = T := ⟨_, rfl⟩
  have hTb : ∀ m, m ≤ 61 → -60000 ≤ T m ∧ T m ≤ 60000 := by rw [← hT]; exact tr_bd hF L hbl (by omega) hd0
  refine calls_run (fn := f23) (c := (f23.body).getD .skip) [.agg #[.slice p.ba p.bs.length p.bc, .int .i64 p.near, .int .i64 p.last, .slice p.ta p.ts.length p.tc], .int .i64 (b : Int), .slice aa L.length lc] func23 (by kernel_rfl) (fun _ => False) [] (fun _ h => by cases h) (List.Pairwise.nil) 77 (by kernel_rfl) (by simp) ?_
  have hlt : b < p.bs.length := by omega
  obtain ⟨be, oe, hbe, hc⟩ := hp.bk (by intro h; rw [h] at hlt; cases hlt)
  have hc := hc b hlt
  refine run_auto [] 2 [] [] [0, 1, 2] [] (st' := ⟨[(0, .agg #[.slice p.ba p.bs.length p.bc, iV p.near, iV p.last, .slice p.ta p.ts.length p.tc]), (1, iV (b : Int)), (2, .slice aa L.length lc)], []⟩) (acc := []) (by kernel_rfl) (by kernel_rfl) trivial ?_
  refine run_new (aO #[.slice p.ba p.bs.length p.bc, iV p.near, iV p.last, .slice p.ta p.ts.length p.tc] 33) (fun b1 => pA b1) (some 3) (fun _ => by kernel_rfl) (fun b1 hb1 => ?_)
  refine run_new (aO #[.slice aa L.length lc] 44) (fun b2 => pA b2) (some 5) (fun _ => by kernel_rfl) (fun b2 hb2 => ?_)
  refine run_auto [] 5 [] [] [1, 3, 5, 6, 7] [0, 1] (st' := ⟨[(1, iV (b : Int)), (3, pA b1), (5, pA b2), (6, .slice none 0 0), (7, iV 0)], [(b2, aO #[.slice aa L.length lc] 44), (b1, aO #[.slice p.ba p.bs.length p.bc, iV p.near, iV p.last, .slice p.ta p.ts.length p.tc] 33)]⟩) (acc := []) (by kernel_rfl) (by kernel_rfl) trivial ?_
  refine run_new (aO #[iV 0] 3) (fun b3 => pA b3) (some 8) (fun _ => by kernel_rfl) (fun b3 hb3 => ?_)
  refine run_auto [] 12 [] [0, 2] [1, 3, 6, 7, 9, 19, 20] [0, 1, 2] (st' := ⟨[(1, iV (b : Int)), (3, pA b1), (6, .slice none 0 0), (7, iV 0), (9, .func (.func 65) #[] #[pA b3, pA b2]), (19, .slice p.ba p.bs.length p.bc), (20, iV (b : Int))], [(b3, aO #[iV 0] 3), (b2, aO #[.slice aa L.length lc] 44), (b1, aO #[.slice p.ba p.bs.length p.bc, iV p.near, iV p.last, .slice p.ta p.ts.length p.tc] 33)]⟩) (acc := [(pA b1, pA b1), (pA b3, pA b3)]) (by kernel_rfl) (by kernel_rfl) ⟨rfl, rfl, trivial⟩ ?_
  refine run_v (Instr.indexAt 30 (.slice p.ba p.bs.length p.bc) (iV (b : Int)) >>= fun v => pure (Next.value v)) (some 21) (.pointer (some ⟨be, oe + b * 6, none⟩)) (by kernel_rfl) (fun w1 k1 h1 => (by rw [hbe]; exact idx_off (e := 54) (n := 6) (by kernel_rfl) (by kernel_rfl) be oe p.bs.length p.bc .i64 b hlt (oe + b * 6) (by omega) w1)) ?_
  refine run_v (Instr.loadAt 54 (.pointer (some ⟨be, oe + b * 6, none⟩)) >>= fun v => pure (Next.value v)) (some 22) (.agg #[iV (elB p.bs b).1, iV (elB p.bs b).2.1, iV (elB p.bs b).2.2.1, iV (elB p.bs b).2.2.2.1, iV (elB p.bs b).2.2.2.2.1, iV (elB p.bs b).2.2.2.2.2]) (by kernel_rfl) (fun w1 k1 h1 => load_in (off := 0) k1 (fun h => h) [iV (elB p.bs b).1, iV (elB p.bs b).2.1, iV (elB p.bs b).2.2.1, iV (elB p.bs b).2.2.2.1, iV (elB p.bs b).2.2.2.2.1, iV (elB p.bs b).2.2.2.2.2] (c6 hc.1 hc.2.1 hc.2.2.1 hc.2.2.2.1 hc.2.2.2.2.1 hc.2.2.2.2.2) (by kernel_rfl)) ?_
  refine run_new (aO #[iV 0, iV 0, iV 0, iV 0, iV 0, iV 0] 54) (fun b4 => pA b4) (some 10) (fun _ => by kernel_rfl) (fun b4 hb4 => ?_)
  refine run_auto [] 3 [] [0] [1, 3, 6, 7, 9, 10] [0, 1, 2, 3] (st' := ⟨[(1, iV (b : Int)), (3, pA b1), (6, .slice none 0 0), (7, iV 0), (9, .func (.func 65) #[] #[pA b3, pA b2]), (10, pA b4)], [(b4, aO #[iV (elB p.bs b).1, iV (elB p.bs b).2.1, iV (elB p.bs b).2.2.1, iV (elB p.bs b).2.2.2.1, iV (elB p.bs b).2.2.2.2.1, iV (elB p.bs b).2.2.2.2.2] 54), (b3, aO #[iV 0] 3), (b2, aO #[.slice aa L.length lc] 44), (b1, aO #[.slice p.ba p.bs.length p.bc, iV p.near, iV p.last, .slice p.ta p.ts.length p.tc] 33)]⟩) (acc := [(pA b4, pA b4)]) (by kernel_rfl) (by kernel_rfl) ⟨rfl, trivial⟩ ?_
  refine drawW 10 [{ val := fun _ => .func (.func 65) #[] #[pA b3, pA b2], slots := [9] },
      { val := fun _ => pA b4, slots := [10] },
      { val := fun _ => .agg #[iV (elB p.bs b).1, iV (elB p.bs b).2.1], slots := [24], reads := [0] },
      { val := fun _ => iV (dwS L 0 ((elB p.bs b).1, (elB p.bs b).2.1)), upd := [(1, fun l => aO #[iV ((0 + 1 : Nat) : Int)] 3)], slots := [23, 25], reads := [1, 2] },
      { val := fun _ => .func (.func 65) #[] #[pA b3, pA b2], slots := [9] },
      { val := fun _ => .pointer (some ⟨b4, 2, none⟩), slots := [10] },
      { val := fun _ => .agg #[iV (elB p.bs b).2.2.1, iV (elB p.bs b).2.2.2.1], slots := [28], reads := [0] },
      { val := fun _ => iV (dwS L (0 + 1 : Nat) ((elB p.bs b).2.2.1, (elB p.bs b).2.2.2.1)), upd := [(1, fun l => aO #[iV (((0 + 1 : Nat) + 1 : Nat) : Int)] 3)], slots := [27, 29], reads := [1, 2] },
      { val := fun _ => iV (dwS L 0 ((elB p.bs b).1, (elB p.bs b).2.1)), slots := [26] },
      { val := fun _ => iV (dwS L (0 + 1 : Nat) ((elB p.bs b).2.2.1, (elB p.bs b).2.2.2.1)), slots := [30] }] [[], [], [1], [0, 1, 2], [], [], [5], [0, 1, 2, 3, 4, 5, 6], [0, 1, 2, 3, 4, 5, 6, 7], [0, 1, 2, 3, 4, 5, 6, 7, 8]] (by kernel_rfl) (by kernel_rfl) (by kernel_rfl) (by kernel_rfl) [1, 3, 6, 7, 9, 10, 11, 12] [0, 1, 2, 3] (by kernel_rfl)
      ⟨⟨⟨⟨⟨⟨⟨⟨⟨⟨trivial,
      tri_quietW (fun β => []) [] [] (fun β => []) (by kernel_rfl) (fun β extra => by kernel_rfl) (by kernel_rfl) (fun β => trivial)⟩,
      tri_quietW (fun β => []) [] [] (fun β => []) (by kernel_rfl) (fun β extra => by kernel_rfl) (by kernel_rfl) (fun β => trivial)⟩,
      tri_quietW (fun β => []) [0] [0] (fun β => [(pA b4, pA b4)]) (by kernel_rfl) (fun β extra => by kernel_rfl) (by kernel_rfl) (fun β => ⟨rfl, trivial⟩)⟩,
      tri_wrW (fun β => b3) (fun β => aO #[iV 0] 3) (fun β => aO #[iV ((0 + 1 : Nat) : Int)] 3) (fun β => [(b2, aO #[.slice aa L.length lc] 44)]) (fun β => iV (dwS L 0 ((elB p.bs b).1, (elB p.bs b).2.1))) 65 (fun β => #[.agg #[iV (elB p.bs b).1, iV (elB p.bs b).2.1], pA b3, pA b2]) (by kernel_rfl) (fun β extra => by kernel_rfl) (fun β => by kernel_rfl) (fun β => by kernel_rfl) (fun β => by kernel_rfl) (fun β => by kernel_rfl) (fun β w1 k1 h1 => draw_any b3 b2 0 lc (elB p.bs b).1 (elB p.bs b).2.1 L aa (by omega) (by omega) (by omega) (by omega) w1 (h1 (b3, aO #[iV 0] 3) (List.mem_of_getElem? (i := 0) (by kernel_rfl))) (h1 (b2, aO #[.slice aa L.length lc] 44) (List.mem_of_getElem? (i := 1) (by kernel_rfl))) (hU.us (k1.keeps (fun _ h => h)) hb3) hlm)⟩,
      tri_quietW (fun β => []) [] [] (fun β => []) (by kernel_rfl) (fun β extra => by kernel_rfl) (by kernel_rfl) (fun β => trivial)⟩,
      tri_quietW (fun β => []) [] [] (fun β => []) (by kernel_rfl) (fun β extra => by kernel_rfl) (by kernel_rfl) (fun β => trivial)⟩,
      tri_quietW (fun β => []) [0] [0] (fun β => [(pA b4, pA b4)]) (by kernel_rfl) (fun β extra => by kernel_rfl) (by kernel_rfl) (fun β => ⟨rfl, trivial⟩)⟩,
      tri_wrW (fun β => b3) (fun β => aO #[iV ((0 + 1 : Nat) : Int)] 3) (fun β => aO #[iV (((0 + 1 : Nat) + 1 : Nat) : Int)] 3) (fun β => [(b2, aO #[.slice aa L.length lc] 44)]) (fun β => iV (dwS L (0 + 1 : Nat) ((elB p.bs b).2.2.1, (elB p.bs b).2.2.2.1))) 65 (fun β => #[.agg #[iV (elB p.bs b).2.2.1, iV (elB p.bs b).2.2.2.1], pA b3, pA b2]) (by kernel_rfl) (fun β extra => by kernel_rfl) (fun β => by kernel_rfl) (fun β => by kernel_rfl) (fun β => by kernel_rfl) (fun β => by kernel_rfl) (fun β w1 k1 h1 => draw_any b3 b2 (0 + 1 : Nat) lc (elB p.bs b).2.2.1 (elB p.bs b).2.2.2.1 L aa (by omega) (by omega) (by omega) (by omega) w1 (h1 (b3, aO #[iV ((0 + 1 : Nat) : Int)] 3) (List.mem_of_getElem? (i := 0) (by kernel_rfl))) (h1 (b2, aO #[.slice aa L.length lc] 44) (List.mem_of_getElem? (i := 1) (by kernel_rfl))) (hU.us (k1.keeps (fun _ h => h)) hb3) hlm)⟩,
      tri_quietW (fun β => []) [] [] (fun β => []) (by kernel_rfl) (fun β extra => by kernel_rfl) (by kernel_rfl) (fun β => trivial)⟩,
      tri_quietW (fun β => []) [] [] (fun β => []) (by kernel_rfl) (fun β extra => by kernel_rfl) (by kernel_rfl) (fun β => trivial)⟩
      (fun β => ⟨[(1, iV (b : Int)), (3, pA b1), (6, .slice none 0 0), (7, iV 0), (9, .func (.func 65) #[] #[pA b3, pA b2]), (10, pA b4), (11, iV (dwS L 0 ((elB p.bs b).1, (elB p.bs b).2.1))), (12, iV (dwS L (0 + 1 : Nat) ((elB p.bs b).2.2.1, (elB p.bs b).2.2.2.1)))], [(b4, aO #[iV (elB p.bs b).1, iV (elB p.bs b).2.1, iV (elB p.bs b).2.2.1, iV (elB p.bs b).2.2.2.1, iV (elB p.bs b).2.2.2.2.1, iV (elB p.bs b).2.2.2.2.2] 54), (b3, aO #[iV (((0 + 1 : Nat) + 1 : Nat) : Int)] 3), (b2, aO #[.slice aa L.length lc] 44), (b1, aO #[.slice p.ba p.bs.length p.bc, iV p.near, iV p.last, .slice p.ta p.ts.length p.tc] 33)]⟩) (fun β => by kernel_rfl) (fun β5 => ?_)
  refine run_auto [(33, iV (p.last + 1))] 9 [] [3] [1, 3, 6, 7, 9, 10, 11, 12, 33, 34] [0, 1, 2, 3] (st' := ⟨[(1, iV (b : Int)), (3, pA b1), (6, .slice none 0 0), (7, iV 0), (9, .func (.func 65) #[] #[pA b3, pA b2]), (10, pA b4), (11, iV (dwS L 0 ((elB p.bs b).1, (elB p.bs b).2.1))), (12, iV (dwS L (0 + 1 : Nat) ((elB p.bs b).2.2.1, (elB p.bs b).2.2.2.1))), (33, iV (p.last + 1)), (34, iV 0)], [(b4, aO #[iV (elB p.bs b).1, iV (elB p.bs b).2.1, iV (elB p.bs b).2.2.1, iV (elB p.bs b).2.2.2.1, iV (elB p.bs b).2.2.2.2.1, iV (elB p.bs b).2.2.2.2.2] 54), (b3, aO #[iV (((0 + 1 : Nat) + 1 : Nat) : Int)] 3), (b2, aO #[.slice aa L.length lc] 44), (b1, aO #[.slice p.ba p.bs.length p.bc, iV p.near, iV p.last, .slice p.ta p.ts.length p.tc] 33)]⟩) (acc := [(iV (IntKind.i64.wrap (p.last + 1)), iV (p.last + 1)), (pA b1, pA b1)]) (by kernel_rfl) (by kernel_rfl) ⟨(wr (by omega) (by omega)), rfl, trivial⟩ ?_
  refine run_auto [] 0 [] [] [1, 3, 6, 7, 9, 10, 11, 12, 33, 34] [0, 1, 2, 3] (st' := ⟨[(1, iV (b : Int)), (3, pA b1), (6, .slice none 0 0), (7, iV 0), (9, .func (.func 65) #[] #[pA b3, pA b2]), (10, pA b4), (11, iV (dwS L 0 ((elB p.bs b).1, (elB p.bs b).2.1))), (12, iV (dwS L (0 + 1 : Nat) ((elB p.bs b).2.2.1, (elB p.bs b).2.2.2.1))), (33, iV (p.last + 1)), (34, iV 0)], [(b4, aO #[iV (elB p.bs b).1, iV (elB p.bs b).2.1, iV (elB p.bs b).2.2.1, iV (elB p.bs b).2.2.2.1, iV (elB p.bs b).2.2.2.2.1, iV (elB p.bs b).2.2.2.2.2] 54), (b3, aO #[iV (((0 + 1 : Nat) + 1 : Nat) : Int)] 3), (b2, aO #[.slice aa L.length lc] 44), (b1, aO #[.slice p.ba p.bs.length p.bc, iV p.near, iV p.last, .slice p.ta p.ts.length p.tc] 33)]⟩) (acc := []) (by kernel_rfl) (by kernel_rfl) trivial ?_
  refine run_loop (S := fun (v : Nat × Option (Nat × Nat × List Value)) => match v with | (m, none) => ⟨[(1, iV (b : Int)), (3, pA b1), (6, .slice none 0 0), (7, iV 0), (9, .func (.func 65) #[] #[pA b3, pA b2]), (10, pA b4), (11, iV (T m)), (12, iV (dwS L (0 + 1 : Nat) ((elB p.bs b).2.2.1, (elB p.bs b).2.2.2.1))), (33, iV (p.last + 1)), (34, iV (m : Int))], [(b4, aO #[iV (elB p.bs b).1, iV (elB p.bs b).2.1, iV (elB p.bs b).2.2.1, iV (elB p.bs b).2.2.2.1, iV (elB p.bs b).2.2.2.2.1, iV (elB p.bs b).2.2.2.2.2] 54), (b3, aO #[iV ((2 + p.ts.length * m : Nat) : Int)] 3), (b2, aO #[.slice aa L.length lc] 44), (b1, aO #[.slice p.ba p.bs.length p.bc, iV p.near, iV p.last, .slice p.ta p.ts.length p.tc] 33)]⟩ | (m, some (g, cap, sp)) => ⟨[(1, iV (b : Int)), (3, pA b1), (6, sV g m cap), (7, iV 0), (9, .func (.func 65) #[] #[pA b3, pA b2]), (10, pA b4), (11, iV (T m)), (12, iV (dwS L (0 + 1 : Nat) ((elB p.bs b).2.2.1, (elB p.bs b).2.2.2.1))), (33, iV (p.last + 1)), (34, iV (m : Int))], [(g, cO ((lnT T m).flatMap inR ++ sp) 3), (b4, aO #[iV (elB p.bs b).1, iV (elB p.bs b).2.1, iV (elB p.bs b).2.2.1, iV (elB p.bs b).2.2.2.1, iV (elB p.bs b).2.2.2.2.1, iV (elB p.bs b).2.2.2.2.2] 54), (b3, aO #[iV ((2 + p.ts.length * m : Nat) : Int)] 3), (b2, aO #[.slice aa L.length lc] 44), (b1, aO #[.slice p.ba p.bs.length p.bc, iV p.near, iV p.last, .slice p.ta p.ts.length p.tc] 33)]⟩) (fun v => v.1 ≤ p.n.N + 1 ∧ match v.2 with | none => v.1 = 0 | some (g, cap, sp) => 1 ≤ v.1 ∧ v.1 ≤ cap ∧ cap ≤ maxLen ∧ ((lnT T v.1).flatMap inR ++ sp).length = cap * 1 ∧ w.heap.size ≤ g) (fun v => p.n.N + 1 - v.1) ((0, none)) (by kernel_rfl) (⟨Nat.zero_le _, rfl⟩) (by dsimp only; rw [← hT]; kernel_rfl) (fun v hI0 J0 hJ0 => ?_)
  obtain ⟨m, _ | ⟨g, cap, sp⟩⟩ := v
  · skip
    obtain ⟨hz1, hz3⟩ := hI0
    dsimp only at hz1 hz3
    have hzl := lnT_len T m
    have hTm := hTb m (by omega)
    have hcm : p.ts.length * m ≤ 8 * 61 := Nat.mul_le_mul ht6 (by omega)
    cases hd1 : (decide ((m : Int) < (p.last + 1))) with
    | false =>
      have hp1 := of_decide_eq_false hd1
      exfalso
      omega
    | true =>
      have hp1 := of_decide_eq_true hd1
      cases hd2 : (decide (0 < (m : Int))) with
      | false =>
        have hp2 := of_decide_eq_false hd2
        refine run_auto [(35, .bool true), (38, .bool false)] 31 [true, false] [3] [1, 3, 6, 7, 9, 10, 11, 12, 33, 34, 13, 43, 44, 45] [0, 1, 2, 3] (st' := ⟨[(1, iV (b : Int)), (3, pA b1), (6, .slice none 0 0), (7, iV 0), (9, .func (.func 65) #[] #[pA b3, pA b2]), (10, pA b4), (11, iV (T m)), (12, iV (dwS L (0 + 1 : Nat) ((elB p.bs b).2.2.1, (elB p.bs b).2.2.2.1))), (33, iV (p.last + 1)), (34, iV (m : Int)), (13, iV (m : Int)), (43, .slice p.ta p.ts.length p.tc), (44, iV (p.ts.length : Int)), (45, iV 0)], [(b4, aO #[iV (elB p.bs b).1, iV (elB p.bs b).2.1, iV (elB p.bs b).2.2.1, iV (elB p.bs b).2.2.2.1, iV (elB p.bs b).2.2.2.2.1, iV (elB p.bs b).2.2.2.2.2] 54), (b3, aO #[iV ((2 + p.ts.length * m : Nat) : Int)] 3), (b2, aO #[.slice aa L.length lc] 44), (b1, aO #[.slice p.ba p.bs.length p.bc, iV p.near, iV p.last, .slice p.ta p.ts.length p.tc] 33)]⟩) (acc := [(pA b1, pA b1), (.bool false, .bool false), (.bool (decide (0 < (m : Int))), .bool false), (.bool true, .bool true), (.bool (decide ((m : Int) < (p.last + 1))), .bool true)]) (by kernel_rfl) (by kernel_rfl) ⟨rfl, rfl, (bo hd2), rfl, (bo hd1), trivial⟩ ?_
        refine run_auto [] 0 [] [] [1, 3, 6, 7, 9, 10, 11, 12, 33, 34, 13, 43, 44, 45] [0, 1, 2, 3] (st' := ⟨[(1, iV (b : Int)), (3, pA b1), (6, .slice none 0 0), (7, iV 0), (9, .func (.func 65) #[] #[pA b3, pA b2]), (10, pA b4), (11, iV (T m)), (12, iV (dwS L (0 + 1 : Nat) ((elB p.bs b).2.2.1, (elB p.bs b).2.2.2.1))), (33, iV (p.last + 1)), (34, iV (m : Int)), (13, iV (m : Int)), (43, .slice p.ta p.ts.length p.tc), (44, iV (p.ts.length : Int)), (45, iV 0)], [(b4, aO #[iV (elB p.bs b).1, iV (elB p.bs b).2.1, iV (elB p.bs b).2.2.1, iV (elB p.bs b).2.2.2.1, iV (elB p.bs b).2.2.2.2.1, iV (elB p.bs b).2.2.2.2.2] 54), (b3, aO #[iV ((2 + p.ts.length * m : Nat) : Int)] 3), (b2, aO #[.slice aa L.length lc] 44), (b1, aO #[.slice p.ba p.bs.length p.bc, iV p.near, iV p.last, .slice p.ta p.ts.length p.tc] 33)]⟩) (acc := []) (by kernel_rfl) (by kernel_rfl) trivial ?_
        refine run_loop (S := fun (i : Nat) => ⟨[(1, iV (b : Int)), (3, pA b1), (6, .slice none 0 0), (7, iV 0), (9, .func (.func 65) #[] #[pA b3, pA b2]), (10, pA b4), (11, iV (inS L p.ts (b : Int) (m : Int) (2 + p.ts.length * m) (T m) i)), (12, iV (dwS L (0 + 1 : Nat) ((elB p.bs b).2.2.1, (elB p.bs b).2.2.2.1))), (33, iV (p.last + 1)), (34, iV (m : Int)), (13, iV (m : Int)), (43, .slice p.ta p.ts.length p.tc), (44, iV (p.ts.length : Int)), (45, iV (i : Int))], [(b4, aO #[iV (elB p.bs b).1, iV (elB p.bs b).2.1, iV (elB p.bs b).2.2.1, iV (elB p.bs b).2.2.2.1, iV (elB p.bs b).2.2.2.2.1, iV (elB p.bs b).2.2.2.2.2] 54), (b3, aO #[iV ((2 + p.ts.length * m + i : Nat) : Int)] 3), (b2, aO #[.slice aa L.length lc] 44), (b1, aO #[.slice p.ba p.bs.length p.bc, iV p.near, iV p.last, .slice p.ta p.ts.length p.tc] 33)]⟩) (fun i => i ≤ p.ts.length) (fun i => p.ts.length - i) (0) (by kernel_rfl) (Nat.zero_le _) (by kernel_rfl) (fun i hI1 J1 hJ1 => ?_)
        have hii := hI1
        have hib := inS_bd hF L (b : Int) (m : Int) (2 + p.ts.length * m) (x := (T m)) (d := 60000) (by omega) i hii
        rw [show p.n.ts = p.ts from rfl] at hib
        cases hd3 : (decide ((i : Int) < (p.ts.length : Int))) with
        | false =>
          have hp3 := of_decide_eq_false hd3
          have hie : i = p.ts.length := by omega
          refine run_auto [(46, .bool false)] 10 [false] [] [1, 3, 6, 7, 9, 10, 11, 12, 33, 34, 67, 68] [0, 1, 2, 3] (st' := ⟨[(1, iV (b : Int)), (3, pA b1), (6, .slice none 0 0), (7, iV 0), (9, .func (.func 65) #[] #[pA b3, pA b2]), (10, pA b4), (11, iV (inS L p.ts (b : Int) (m : Int) (2 + p.ts.length * m) (T m) i)), (12, iV (dwS L (0 + 1 : Nat) ((elB p.bs b).2.2.1, (elB p.bs b).2.2.2.1))), (33, iV (p.last + 1)), (34, iV (m : Int)), (67, .slice none 0 0), (68, iV (inS L p.ts (b : Int) (m : Int) (2 + p.ts.length * m) (T m) i))], [(b4, aO #[iV (elB p.bs b).1, iV (elB p.bs b).2.1, iV (elB p.bs b).2.2.1, iV (elB p.bs b).2.2.2.1, iV (elB p.bs b).2.2.2.2.1, iV (elB p.bs b).2.2.2.2.2] 54), (b3, aO #[iV ((2 + p.ts.length * m + i : Nat) : Int)] 3), (b2, aO #[.slice aa L.length lc] 44), (b1, aO #[.slice p.ba p.bs.length p.bc, iV p.near, iV p.last, .slice p.ta p.ts.length p.tc] 33)]⟩) (acc := [(.bool false, .bool false), (.bool (decide ((i : Int) < (p.ts.length : Int))), .bool false)]) (by kernel_rfl) (by kernel_rfl) ⟨rfl, (bo hd3), trivial⟩ ?_
          refine run_new (aO #[iV (inS L p.ts (b : Int) (m : Int) (2 + p.ts.length * m) (T m) i)] 3) (fun b6 => sV b6 1 1) (some 69) (fun _ => by kernel_rfl) (fun b6 hb6 => ?_)
          refine run_app_none (t := 46) (ty := 46) (e := 3) (n := 1) (z := (iV 0)) (by kernel_rfl) (by kernel_rfl) (by kernel_rfl) rfl (by kernel_rfl) inR inR_len (some 70) 1 1 ([(inS L p.ts (b : Int) (m : Int) (2 + p.ts.length * m) (T m) i)] : List Int) ⟨b6, 0, none⟩ (by first | rfl | omega | (simp; done) | (simp; omega)) (by omega) (by kernel_rfl) (fun w1 k1 h1 jq uq hu => by rw [add_none, Nat.zero_add]; exact cells_of_heap (h1 (b6, aO #[iV (inS L p.ts (b : Int) (m : Int) (2 + p.ts.length * m) (T m) i)] 3) (List.mem_of_getElem? (i := 0) (by kernel_rfl))) jq uq hu) (by omega) (fun b7 cap7 sp7 hb7 hqb7 hmb7 hlb7 => ?_)
          refine run_auto [(71, iV ((m + 1 : Nat) : Int))] 7 [] [] [1, 3, 6, 7, 9, 10, 11, 12, 33, 34] [0, 2, 3, 4, 5] (st' := ⟨[(1, iV (b : Int)), (3, pA b1), (6, sV b7 1 cap7), (7, iV 0), (9, .func (.func 65) #[] #[pA b3, pA b2]), (10, pA b4), (11, iV (inS L p.ts (b : Int) (m : Int) (2 + p.ts.length * m) (T m) i)), (12, iV (dwS L (0 + 1 : Nat) ((elB p.bs b).2.2.1, (elB p.bs b).2.2.2.1))), (33, iV (p.last + 1)), (34, iV ((m + 1 : Nat) : Int))], [(b7, cO ((([(inS L p.ts (b : Int) (m : Int) (2 + p.ts.length * m) (T m) i)] : List Int)).flatMap inR ++ sp7) 3), (b4, aO #[iV (elB p.bs b).1, iV (elB p.bs b).2.1, iV (elB p.bs b).2.2.1, iV (elB p.bs b).2.2.2.1, iV (elB p.bs b).2.2.2.2.1, iV (elB p.bs b).2.2.2.2.2] 54), (b3, aO #[iV ((2 + p.ts.length * m + i : Nat) : Int)] 3), (b2, aO #[.slice aa L.length lc] 44), (b1, aO #[.slice p.ba p.bs.length p.bc, iV p.near, iV p.last, .slice p.ta p.ts.length p.tc] 33)]⟩) (acc := [(iV (IntKind.i64.wrap ((m : Int) + 1)), iV ((m + 1 : Nat) : Int))]) (by kernel_rfl) (by kernel_rfl) ⟨(wr (by omega) (by omega)), trivial⟩ ?_
          subst hz3
          have hst : T ((0 : Nat) + 1) = inS L p.ts (b : Int) ((0 : Nat) : Int) (2 + p.ts.length * (0 : Nat)) (T 0) i := by rw [← stM_zero (x := T (0 : Nat)) (k := (dwS L (0 + 1) ((elB p.bs b).2.2.1, (elB p.bs b).2.2.2.1))) (m := (0 : Nat)) (by omega), hie, ← hT]; rfl
          have hln := lnT_next T (0 : Nat)
          rw [hst] at hln
          have hct : 2 + p.ts.length * ((0 : Nat) + 1) = 2 + p.ts.length * (0 : Nat) + i := by rw [hie, Nat.mul_succ]; omega
          rw [show lnT T 0 = [] from rfl, List.nil_append] at hln
          have hj := hJ0 ((0 + 1, some (b7, cap7, sp7))) (⟨by dsimp only; omega, by dsimp only; omega, hqb7, hmb7, by dsimp only; rw [hln]; exact hlb7, hb7⟩) (by dsimp only; omega)
          dsimp only at hj
          rw [hln, hst, hct] at hj
          exact run_round (by kernel_rfl) hj
        | true =>
          have hp3 := of_decide_eq_true hd3
          have hil : i < p.ts.length := by omega
          have htb := (hF.tcF hil).h
          rw [show elT p.n.ts i = elT p.ts i from rfl] at htb
          have hdi := dw_in L (2 + p.ts.length * m + i) (s := (elT p.ts i).2.2) htb.2.1
          have hltq : i < p.ts.length := by omega
          obtain ⟨beq, oeq, hbeq, hcq⟩ := hp.tk (by intro h; rw [h] at hltq; cases hltq)
          have hcq := hcq i hltq
          refine run_auto [(46, .bool true)] 11 [true] [] [1, 3, 6, 7, 9, 10, 11, 12, 33, 34, 13, 43, 44, 45] [0, 1, 2, 3] (st' := ⟨[(1, iV (b : Int)), (3, pA b1), (6, .slice none 0 0), (7, iV 0), (9, .func (.func 65) #[] #[pA b3, pA b2]), (10, pA b4), (11, iV (inS L p.ts (b : Int) (m : Int) (2 + p.ts.length * m) (T m) i)), (12, iV (dwS L (0 + 1 : Nat) ((elB p.bs b).2.2.1, (elB p.bs b).2.2.2.1))), (33, iV (p.last + 1)), (34, iV (m : Int)), (13, iV (m : Int)), (43, .slice p.ta p.ts.length p.tc), (44, iV (p.ts.length : Int)), (45, iV (i : Int))], [(b4, aO #[iV (elB p.bs b).1, iV (elB p.bs b).2.1, iV (elB p.bs b).2.2.1, iV (elB p.bs b).2.2.2.1, iV (elB p.bs b).2.2.2.2.1, iV (elB p.bs b).2.2.2.2.2] 54), (b3, aO #[iV ((2 + p.ts.length * m + i : Nat) : Int)] 3), (b2, aO #[.slice aa L.length lc] 44), (b1, aO #[.slice p.ba p.bs.length p.bc, iV p.near, iV p.last, .slice p.ta p.ts.length p.tc] 33)]⟩) (acc := [(.bool true, .bool true), (.bool (decide ((i : Int) < (p.ts.length : Int))), .bool true)]) (by kernel_rfl) (by kernel_rfl) ⟨rfl, (bo hd3), trivial⟩ ?_
          refine run_v (Instr.indexAt 31 (.slice p.ta p.ts.length p.tc) (iV (i : Int)) >>= fun v => pure (Next.value v)) (some 47) (.pointer (some ⟨beq, oeq + i * 4, none⟩)) (by kernel_rfl) (fun w1 k1 h1 => (by rw [hbeq]; exact idx_off (e := 61) (n := 4) (by kernel_rfl) (by kernel_rfl) beq oeq p.ts.length p.tc .i64 i hltq (oeq + i * 4) (by omega) w1)) ?_
          refine run_v (Instr.loadAt 61 (.pointer (some ⟨beq, oeq + i * 4, none⟩)) >>= fun v => pure (Next.value v)) (some 48) (.agg #[iV (elT p.ts i).1, iV (elT p.ts i).2.1, iV (elT p.ts i).2.2.1, iV (elT p.ts i).2.2.2]) (by kernel_rfl) (fun w1 k1 h1 => load_in (off := 0) k1 (fun h => h) [iV (elT p.ts i).1, iV (elT p.ts i).2.1, iV (elT p.ts i).2.2.1, iV (elT p.ts i).2.2.2] (c4 hcq.1 hcq.2.1 hcq.2.2.1 hcq.2.2.2) (by kernel_rfl)) ?_
          refine run_new (aO #[iV 0, iV 0, iV 0, iV 0] 61) (fun b6 => pA b6) (some 15) (fun _ => by kernel_rfl) (fun b6 hb6 => ?_)
          refine run_auto [] 7 [] [0, 0] [1, 3, 6, 7, 9, 10, 11, 12, 33, 34, 13, 43, 44, 45, 15, 49, 51] [0, 1, 2, 3, 4] (st' := ⟨[(1, iV (b : Int)), (3, pA b1), (6, .slice none 0 0), (7, iV 0), (9, .func (.func 65) #[] #[pA b3, pA b2]), (10, pA b4), (11, iV (inS L p.ts (b : Int) (m : Int) (2 + p.ts.length * m) (T m) i)), (12, iV (dwS L (0 + 1 : Nat) ((elB p.bs b).2.2.1, (elB p.bs b).2.2.2.1))), (33, iV (p.last + 1)), (34, iV (m : Int)), (13, iV (m : Int)), (43, .slice p.ta p.ts.length p.tc), (44, iV (p.ts.length : Int)), (45, iV (i : Int)), (15, pA b6), (49, .func (.func 65) #[] #[pA b3, pA b2]), (51, .agg #[iV (elT p.ts i).2.2.1, iV (elT p.ts i).2.2.2])], [(b6, aO #[iV (elT p.ts i).1, iV (elT p.ts i).2.1, iV (elT p.ts i).2.2.1, iV (elT p.ts i).2.2.2] 61), (b4, aO #[iV (elB p.bs b).1, iV (elB p.bs b).2.1, iV (elB p.bs b).2.2.1, iV (elB p.bs b).2.2.2.1, iV (elB p.bs b).2.2.2.2.1, iV (elB p.bs b).2.2.2.2.2] 54), (b3, aO #[iV ((2 + p.ts.length * m + i : Nat) : Int)] 3), (b2, aO #[.slice aa L.length lc] 44), (b1, aO #[.slice p.ba p.bs.length p.bc, iV p.near, iV p.last, .slice p.ta p.ts.length p.tc] 33)]⟩) (acc := [(pA b6, pA b6), (pA b6, pA b6)]) (by kernel_rfl) (by kernel_rfl) ⟨rfl, rfl, trivial⟩ ?_
          refine run_wr 65 #[.agg #[iV (elT p.ts i).2.2.1, iV (elT p.ts i).2.2.2], pA b3, pA b2] (some 52) (iV (dwS L (2 + p.ts.length * m + i : Nat) (elT p.ts i).2.2)) 2 b3 (aO #[iV ((2 + p.ts.length * m + i : Nat) : Int)] 3) (aO #[iV (((2 + p.ts.length * m + i : Nat) + 1 : Nat) : Int)] 3) (by kernel_rfl) (by kernel_rfl) (by kernel_rfl) (fun w1 k1 h1 => draw_any b3 b2 (2 + p.ts.length * m + i : Nat) lc (elT p.ts i).2.2.1 (elT p.ts i).2.2.2 L aa (by omega) (by omega) (by omega) (by omega) w1 (h1 (b3, aO #[iV ((2 + p.ts.length * m + i : Nat) : Int)] 3) (List.mem_of_getElem? (i := 2) (by kernel_rfl))) (h1 (b2, aO #[.slice aa L.length lc] 44) (List.mem_of_getElem? (i := 3) (by kernel_rfl))) (hU.us (k1.keeps (fun _ h => h)) hb3) hlm) ?_
          cases hd4 : ((elT p.ts i).1 == (b : Int)) with
          | false =>
            have hp4 : ¬ (elT p.ts i).1 = (b : Int) := by simpa using hd4
            refine run_auto [(56, .bool false), (66, iV ((i + 1 : Nat) : Int))] 22 [false] [0] [1, 3, 6, 7, 9, 10, 11, 12, 33, 34, 13, 43, 44, 45] [1, 2, 3, 4] (st' := ⟨[(1, iV (b : Int)), (3, pA b1), (6, .slice none 0 0), (7, iV 0), (9, .func (.func 65) #[] #[pA b3, pA b2]), (10, pA b4), (11, iV (inS L p.ts (b : Int) (m : Int) (2 + p.ts.length * m) (T m) i)), (12, iV (dwS L (0 + 1 : Nat) ((elB p.bs b).2.2.1, (elB p.bs b).2.2.2.1))), (33, iV (p.last + 1)), (34, iV (m : Int)), (13, iV (m : Int)), (43, .slice p.ta p.ts.length p.tc), (44, iV (p.ts.length : Int)), (45, iV ((i + 1 : Nat) : Int))], [(b4, aO #[iV (elB p.bs b).1, iV (elB p.bs b).2.1, iV (elB p.bs b).2.2.1, iV (elB p.bs b).2.2.2.1, iV (elB p.bs b).2.2.2.2.1, iV (elB p.bs b).2.2.2.2.2] 54), (b3, aO #[iV (((2 + p.ts.length * m + i : Nat) + 1 : Nat) : Int)] 3), (b2, aO #[.slice aa L.length lc] 44), (b1, aO #[.slice p.ba p.bs.length p.bc, iV p.near, iV p.last, .slice p.ta p.ts.length p.tc] 33)]⟩) (acc := [(iV (IntKind.i64.wrap ((i : Int) + 1)), iV ((i + 1 : Nat) : Int)), (.bool false, .bool false), (.bool ((elT p.ts i).1 == (b : Int)), .bool false), (pA b6, pA b6)]) (by kernel_rfl) (by kernel_rfl) ⟨(wr (by omega) (by omega)), rfl, (bo hd4), rfl, trivial⟩ ?_
            have hst := inS_no (L := L) (ts := p.ts) (b := (b : Int)) (m := (m : Int)) (c := 2 + p.ts.length * m) (x := (T m)) (i := i) (by unfold isAt; rw [hd4]; rfl)
            have hj := hJ1 (i + 1) (by omega) (by omega)
            rw [hst] at hj
            exact run_round (by kernel_rfl) hj
          | true =>
            have hp4 : (elT p.ts i).1 = (b : Int) := by simpa using hd4
            cases hd5 : ((elT p.ts i).2.1 == (m : Int)) with
            | false =>
              have hp5 : ¬ (elT p.ts i).2.1 = (m : Int) := by simpa using hd5
              refine run_auto [(56, .bool true), (61, .bool false), (66, iV ((i + 1 : Nat) : Int))] 22 [false] [0, 0] [1, 3, 6, 7, 9, 10, 11, 12, 33, 34, 13, 43, 44, 45] [1, 2, 3, 4] (st' := ⟨[(1, iV (b : Int)), (3, pA b1), (6, .slice none 0 0), (7, iV 0), (9, .func (.func 65) #[] #[pA b3, pA b2]), (10, pA b4), (11, iV (inS L p.ts (b : Int) (m : Int) (2 + p.ts.length * m) (T m) i)), (12, iV (dwS L (0 + 1 : Nat) ((elB p.bs b).2.2.1, (elB p.bs b).2.2.2.1))), (33, iV (p.last + 1)), (34, iV (m : Int)), (13, iV (m : Int)), (43, .slice p.ta p.ts.length p.tc), (44, iV (p.ts.length : Int)), (45, iV ((i + 1 : Nat) : Int))], [(b4, aO #[iV (elB p.bs b).1, iV (elB p.bs b).2.1, iV (elB p.bs b).2.2.1, iV (elB p.bs b).2.2.2.1, iV (elB p.bs b).2.2.2.2.1, iV (elB p.bs b).2.2.2.2.2] 54), (b3, aO #[iV (((2 + p.ts.length * m + i : Nat) + 1 : Nat) : Int)] 3), (b2, aO #[.slice aa L.length lc] 44), (b1, aO #[.slice p.ba p.bs.length p.bc, iV p.near, iV p.last, .slice p.ta p.ts.length p.tc] 33)]⟩) (acc := [(iV (IntKind.i64.wrap ((i : Int) + 1)), iV ((i + 1 : Nat) : Int)), (.bool false, .bool false), (.bool ((elT p.ts i).2.1 == (m : Int)), .bool false), (pA b6, pA b6), (.bool ((elT p.ts i).1 == (b : Int)), .bool true), (pA b6, pA b6)]) (by kernel_rfl) (by kernel_rfl) ⟨(wr (by omega) (by omega)), rfl, (bo hd5), rfl, (bo hd4), rfl, trivial⟩ ?_
              have hst := inS_no (L := L) (ts := p.ts) (b := (b : Int)) (m := (m : Int)) (c := 2 + p.ts.length * m) (x := (T m)) (i := i) (by unfold isAt; rw [hd4, cond_true, hd5])
              have hj := hJ1 (i + 1) (by omega) (by omega)
              rw [hst] at hj
              exact run_round (by kernel_rfl) hj
            | true =>
              have hp5 : (elT p.ts i).2.1 = (m : Int) := by simpa using hd5
              refine run_auto [(56, .bool true), (61, .bool true), (65, iV ((inS L p.ts (b : Int) (m : Int) (2 + p.ts.length * m) (T m) i) + (dwS L (2 + p.ts.length * m + i : Nat) (elT p.ts i).2.2))), (66, iV ((i + 1 : Nat) : Int))] 27 [true] [0, 0] [1, 3, 6, 7, 9, 10, 11, 12, 33, 34, 13, 43, 44, 45] [1, 2, 3, 4] (st' := ⟨[(1, iV (b : Int)), (3, pA b1), (6, .slice none 0 0), (7, iV 0), (9, .func (.func 65) #[] #[pA b3, pA b2]), (10, pA b4), (11, iV ((inS L p.ts (b : Int) (m : Int) (2 + p.ts.length * m) (T m) i) + (dwS L (2 + p.ts.length * m + i : Nat) (elT p.ts i).2.2))), (12, iV (dwS L (0 + 1 : Nat) ((elB p.bs b).2.2.1, (elB p.bs b).2.2.2.1))), (33, iV (p.last + 1)), (34, iV (m : Int)), (13, iV (m : Int)), (43, .slice p.ta p.ts.length p.tc), (44, iV (p.ts.length : Int)), (45, iV ((i + 1 : Nat) : Int))], [(b4, aO #[iV (elB p.bs b).1, iV (elB p.bs b).2.1, iV (elB p.bs b).2.2.1, iV (elB p.bs b).2.2.2.1, iV (elB p.bs b).2.2.2.2.1, iV (elB p.bs b).2.2.2.2.2] 54), (b3, aO #[iV (((2 + p.ts.length * m + i : Nat) + 1 : Nat) : Int)] 3), (b2, aO #[.slice aa L.length lc] 44), (b1, aO #[.slice p.ba p.bs.length p.bc, iV p.near, iV p.last, .slice p.ta p.ts.length p.tc] 33)]⟩) (acc := [(iV (IntKind.i64.wrap ((i : Int) + 1)), iV ((i + 1 : Nat) : Int)), (iV (IntKind.i64.wrap ((inS L p.ts (b : Int) (m : Int) (2 + p.ts.length * m) (T m) i) + (dwS L (2 + p.ts.length * m + i : Nat) (elT p.ts i).2.2))), iV ((inS L p.ts (b : Int) (m : Int) (2 + p.ts.length * m) (T m) i) + (dwS L (2 + p.ts.length * m + i : Nat) (elT p.ts i).2.2))), (.bool true, .bool true), (.bool ((elT p.ts i).2.1 == (m : Int)), .bool true), (pA b6, pA b6), (.bool ((elT p.ts i).1 == (b : Int)), .bool true), (pA b6, pA b6)]) (by kernel_rfl) (by kernel_rfl) ⟨(wr (by omega) (by omega)), (wr (by omega) (by omega)), rfl, (bo hd5), rfl, (bo hd4), rfl, trivial⟩ ?_
              have hst := inS_yes (L := L) (ts := p.ts) (b := (b : Int)) (m := (m : Int)) (c := 2 + p.ts.length * m) (x := (T m)) (i := i) (by unfold isAt; rw [hd4, cond_true, hd5])
              have hj := hJ1 (i + 1) (by omega) (by omega)
              rw [hst] at hj
              exact run_round (by kernel_rfl) hj
      | true =>
        have hp2 := of_decide_eq_true hd2
        have hfb := fall_bd (x := T m) (k := (dwS L (0 + 1) ((elB p.bs b).2.2.1, (elB p.bs b).2.2.2.1))) 60000 (by omega) ⟨by omega, by omega⟩
        refine run_auto [(35, .bool true), (38, .bool true)] 24 [true, true] [] [1, 3, 6, 7, 9, 10, 11, 12, 33, 34, 13, 39, 40] [0, 1, 2, 3] (st' := ⟨[(1, iV (b : Int)), (3, pA b1), (6, .slice none 0 0), (7, iV 0), (9, .func (.func 65) #[] #[pA b3, pA b2]), (10, pA b4), (11, iV (T m)), (12, iV (dwS L (0 + 1 : Nat) ((elB p.bs b).2.2.1, (elB p.bs b).2.2.2.1))), (33, iV (p.last + 1)), (34, iV (m : Int)), (13, iV (m : Int)), (39, iV (T m)), (40, iV (dwS L (0 + 1 : Nat) ((elB p.bs b).2.2.1, (elB p.bs b).2.2.2.1)))], [(b4, aO #[iV (elB p.bs b).1, iV (elB p.bs b).2.1, iV (elB p.bs b).2.2.1, iV (elB p.bs b).2.2.2.1, iV (elB p.bs b).2.2.2.2.1, iV (elB p.bs b).2.2.2.2.2] 54), (b3, aO #[iV ((2 + p.ts.length * m : Nat) : Int)] 3), (b2, aO #[.slice aa L.length lc] 44), (b1, aO #[.slice p.ba p.bs.length p.bc, iV p.near, iV p.last, .slice p.ta p.ts.length p.tc] 33)]⟩) (acc := [(.bool true, .bool true), (.bool (decide (0 < (m : Int))), .bool true), (.bool true, .bool true), (.bool (decide ((m : Int) < (p.last + 1))), .bool true)]) (by kernel_rfl) (by kernel_rfl) ⟨rfl, (bo hd2), rfl, (bo hd1), trivial⟩ ?_
        refine run_ret1 66 #[iV (T m), iV (dwS L (0 + 1 : Nat) ((elB p.bs b).2.2.1, (elB p.bs b).2.2.2.1))] (some 41) (iV (fall (T m) (dwS L (0 + 1 : Nat) ((elB p.bs b).2.2.1, (elB p.bs b).2.2.2.1)))) (by kernel_rfl) (fun w1 k1 h1 => falls_any (T m) (dwS L (0 + 1 : Nat) ((elB p.bs b).2.2.1, (elB p.bs b).2.2.2.1)) (by omega) (by omega) (by omega) (by omega) w1) ?_
        refine run_auto [] 11 [] [3] [1, 3, 6, 7, 9, 10, 11, 12, 33, 34, 13, 43, 44, 45] [0, 1, 2, 3] (st' := ⟨[(1, iV (b : Int)), (3, pA b1), (6, .slice none 0 0), (7, iV 0), (9, .func (.func 65) #[] #[pA b3, pA b2]), (10, pA b4), (11, iV (fall (T m) (dwS L (0 + 1 : Nat) ((elB p.bs b).2.2.1, (elB p.bs b).2.2.2.1)))), (12, iV (dwS L (0 + 1 : Nat) ((elB p.bs b).2.2.1, (elB p.bs b).2.2.2.1))), (33, iV (p.last + 1)), (34, iV (m : Int)), (13, iV (m : Int)), (43, .slice p.ta p.ts.length p.tc), (44, iV (p.ts.length : Int)), (45, iV 0)], [(b4, aO #[iV (elB p.bs b).1, iV (elB p.bs b).2.1, iV (elB p.bs b).2.2.1, iV (elB p.bs b).2.2.2.1, iV (elB p.bs b).2.2.2.2.1, iV (elB p.bs b).2.2.2.2.2] 54), (b3, aO #[iV ((2 + p.ts.length * m : Nat) : Int)] 3), (b2, aO #[.slice aa L.length lc] 44), (b1, aO #[.slice p.ba p.bs.length p.bc, iV p.near, iV p.last, .slice p.ta p.ts.length p.tc] 33)]⟩) (acc := [(pA b1, pA b1)]) (by kernel_rfl) (by kernel_rfl) ⟨rfl, trivial⟩ ?_
        refine run_auto [] 0 [] [] [1, 3, 6, 7, 9, 10, 11, 12, 33, 34, 13, 43, 44, 45] [0, 1, 2, 3] (st' := ⟨[(1, iV (b : Int)), (3, pA b1), (6, .slice none 0 0), (7, iV 0), (9, .func (.func 65) #[] #[pA b3, pA b2]), (10, pA b4), (11, iV (fall (T m) (dwS L (0 + 1 : Nat) ((elB p.bs b).2.2.1, (elB p.bs b).2.2.2.1)))), (12, iV (dwS L (0 + 1 : Nat) ((elB p.bs b).2.2.1, (elB p.bs b).2.2.2.1))), (33, iV (p.last + 1)), (34, iV (m : Int)), (13, iV (m : Int)), (43, .slice p.ta p.ts.length p.tc), (44, iV (p.ts.length : Int)), (45, iV 0)], [(b4, aO #[iV (elB p.bs b).1, iV (elB p.bs b).2.1, iV (elB p.bs b).2.2.1, iV (elB p.bs b).2.2.2.1, iV (elB p.bs b).2.2.2.2.1, iV (elB p.bs b).2.2.2.2.2] 54), (b3, aO #[iV ((2 + p.ts.length * m : Nat) : Int)] 3), (b2, aO #[.slice aa L.length lc] 44), (b1, aO #[.slice p.ba p.bs.length p.bc, iV p.near, iV p.last, .slice p.ta p.ts.length p.tc] 33)]⟩) (acc := []) (by kernel_rfl) (by kernel_rfl) trivial ?_
        refine run_loop (S := fun (i : Nat) => ⟨[(1, iV (b : Int)), (3, pA b1), (6, .slice none 0 0), (7, iV 0), (9, .func (.func 65) #[] #[pA b3, pA b2]), (10, pA b4), (11, iV (inS L p.ts (b : Int) (m : Int) (2 + p.ts.length * m) (fall (T m) (dwS L (0 + 1 : Nat) ((elB p.bs b).2.2.1, (elB p.bs b).2.2.2.1))) i)), (12, iV (dwS L (0 + 1 : Nat) ((elB p.bs b).2.2.1, (elB p.bs b).2.2.2.1))), (33, iV (p.last + 1)), (34, iV (m : Int)), (13, iV (m : Int)), (43, .slice p.ta p.ts.length p.tc), (44, iV (p.ts.length : Int)), (45, iV (i : Int))], [(b4, aO #[iV (elB p.bs b).1, iV (elB p.bs b).2.1, iV (elB p.bs b).2.2.1, iV (elB p.bs b).2.2.2.1, iV (elB p.bs b).2.2.2.2.1, iV (elB p.bs b).2.2.2.2.2] 54), (b3, aO #[iV ((2 + p.ts.length * m + i : Nat) : Int)] 3), (b2, aO #[.slice aa L.length lc] 44), (b1, aO #[.slice p.ba p.bs.length p.bc, iV p.near, iV p.last, .slice p.ta p.ts.length p.tc] 33)]⟩) (fun i => i ≤ p.ts.length) (fun i => p.ts.length - i) (0) (by kernel_rfl) (Nat.zero_le _) (by kernel_rfl) (fun i hI1 J1 hJ1 => ?_)
        have hii := hI1
        have hib := inS_bd hF L (b : Int) (m : Int) (2 + p.ts.length * m) (x := (fall (T m) (dwS L (0 + 1 : Nat) ((elB p.bs b).2.2.1, (elB p.bs b).2.2.2.1)))) (d := 60000) (by omega) i hii
        rw [show p.n.ts = p.ts from rfl] at hib
        cases hd3 : (decide ((i : Int) < (p.ts.length : Int))) with
        | false =>
          have hp3 := of_decide_eq_false hd3
          have hie : i = p.ts.length := by omega
          refine run_auto [(46, .bool false)] 10 [false] [] [1, 3, 6, 7, 9, 10, 11, 12, 33, 34, 67, 68] [0, 1, 2, 3] (st' := ⟨[(1, iV (b : Int)), (3, pA b1), (6, .slice none 0 0), (7, iV 0), (9, .func (.func 65) #[] #[pA b3, pA b2]), (10, pA b4), (11, iV (inS L p.ts (b : Int) (m : Int) (2 + p.ts.length * m) (fall (T m) (dwS L (0 + 1 : Nat) ((elB p.bs b).2.2.1, (elB p.bs b).2.2.2.1))) i)), (12, iV (dwS L (0 + 1 : Nat) ((elB p.bs b).2.2.1, (elB p.bs b).2.2.2.1))), (33, iV (p.last + 1)), (34, iV (m : Int)), (67, .slice none 0 0), (68, iV (inS L p.ts (b : Int) (m : Int) (2 + p.ts.length * m) (fall (T m) (dwS L (0 + 1 : Nat) ((elB p.bs b).2.2.1, (elB p.bs b).2.2.2.1))) i))], [(b4, aO #[iV (elB p.bs b).1, iV (elB p.bs b).2.1, iV (elB p.bs b).2.2.1, iV (elB p.bs b).2.2.2.1, iV (elB p.bs b).2.2.2.2.1, iV (elB p.bs b).2.2.2.2.2] 54), (b3, aO #[iV ((2 + p.ts.length * m + i : Nat) : Int)] 3), (b2, aO #[.slice aa L.length lc] 44), (b1, aO #[.slice p.ba p.bs.length p.bc, iV p.near, iV p.last, .slice p.ta p.ts.length p.tc] 33)]⟩) (acc := [(.bool false, .bool false), (.bool (decide ((i : Int) < (p.ts.length : Int))), .bool false)]) (by kernel_rfl) (by kernel_rfl) ⟨rfl, (bo hd3), trivial⟩ ?_
          refine run_new (aO #[iV (inS L p.ts (b : Int) (m : Int) (2 + p.ts.length * m) (fall (T m) (dwS L (0 + 1 : Nat) ((elB p.bs b).2.2.1, (elB p.bs b).2.2.2.1))) i)] 3) (fun b6 => sV b6 1 1) (some 69) (fun _ => by kernel_rfl) (fun b6 hb6 => ?_)
          refine run_app_none (t := 46) (ty := 46) (e := 3) (n := 1) (z := (iV 0)) (by kernel_rfl) (by kernel_rfl) (by kernel_rfl) rfl (by kernel_rfl) inR inR_len (some 70) 1 1 ([(inS L p.ts (b : Int) (m : Int) (2 + p.ts.length * m) (fall (T m) (dwS L (0 + 1 : Nat) ((elB p.bs b).2.2.1, (elB p.bs b).2.2.2.1))) i)] : List Int) ⟨b6, 0, none⟩ (by first | rfl | omega | (simp; done) | (simp; omega)) (by omega) (by kernel_rfl) (fun w1 k1 h1 jq uq hu => by rw [add_none, Nat.zero_add]; exact cells_of_heap (h1 (b6, aO #[iV (inS L p.ts (b : Int) (m : Int) (2 + p.ts.length * m) (fall (T m) (dwS L (0 + 1 : Nat) ((elB p.bs b).2.2.1, (elB p.bs b).2.2.2.1))) i)] 3) (List.mem_of_getElem? (i := 0) (by kernel_rfl))) jq uq hu) (by omega) (fun b7 cap7 sp7 hb7 hqb7 hmb7 hlb7 => ?_)
          refine run_auto [(71, iV ((m + 1 : Nat) : Int))] 7 [] [] [1, 3, 6, 7, 9, 10, 11, 12, 33, 34] [0, 2, 3, 4, 5] (st' := ⟨[(1, iV (b : Int)), (3, pA b1), (6, sV b7 1 cap7), (7, iV 0), (9, .func (.func 65) #[] #[pA b3, pA b2]), (10, pA b4), (11, iV (inS L p.ts (b : Int) (m : Int) (2 + p.ts.length * m) (fall (T m) (dwS L (0 + 1 : Nat) ((elB p.bs b).2.2.1, (elB p.bs b).2.2.2.1))) i)), (12, iV (dwS L (0 + 1 : Nat) ((elB p.bs b).2.2.1, (elB p.bs b).2.2.2.1))), (33, iV (p.last + 1)), (34, iV ((m + 1 : Nat) : Int))], [(b7, cO ((([(inS L p.ts (b : Int) (m : Int) (2 + p.ts.length * m) (fall (T m) (dwS L (0 + 1 : Nat) ((elB p.bs b).2.2.1, (elB p.bs b).2.2.2.1))) i)] : List Int)).flatMap inR ++ sp7) 3), (b4, aO #[iV (elB p.bs b).1, iV (elB p.bs b).2.1, iV (elB p.bs b).2.2.1, iV (elB p.bs b).2.2.2.1, iV (elB p.bs b).2.2.2.2.1, iV (elB p.bs b).2.2.2.2.2] 54), (b3, aO #[iV ((2 + p.ts.length * m + i : Nat) : Int)] 3), (b2, aO #[.slice aa L.length lc] 44), (b1, aO #[.slice p.ba p.bs.length p.bc, iV p.near, iV p.last, .slice p.ta p.ts.length p.tc] 33)]⟩) (acc := [(iV (IntKind.i64.wrap ((m : Int) + 1)), iV ((m + 1 : Nat) : Int))]) (by kernel_rfl) (by kernel_rfl) ⟨(wr (by omega) (by omega)), trivial⟩ ?_
          subst hz3
          have hst : T ((0 : Nat) + 1) = inS L p.ts (b : Int) ((0 : Nat) : Int) (2 + p.ts.length * (0 : Nat)) (fall (T 0) (dwS L (0 + 1 : Nat) ((elB p.bs b).2.2.1, (elB p.bs b).2.2.2.1))) i := by rw [← stM_pos (x := T (0 : Nat)) (k := (dwS L (0 + 1) ((elB p.bs b).2.2.1, (elB p.bs b).2.2.2.1))) (m := (0 : Nat)) (by omega), hie, ← hT]; rfl
          have hln := lnT_next T (0 : Nat)
          rw [hst] at hln
          have hct : 2 + p.ts.length * ((0 : Nat) + 1) = 2 + p.ts.length * (0 : Nat) + i := by rw [hie, Nat.mul_succ]; omega
          rw [show lnT T 0 = [] from rfl, List.nil_append] at hln
          have hj := hJ0 ((0 + 1, some (b7, cap7, sp7))) (⟨by dsimp only; omega, by dsimp only; omega, hqb7, hmb7, by dsimp only; rw [hln]; exact hlb7, hb7⟩) (by dsimp only; omega)
          dsimp only at hj
          rw [hln, hst, hct] at hj
          exact run_round (by kernel_rfl) hj
        | true =>
          have hp3 := of_decide_eq_true hd3
          have hil : i < p.ts.length := by omega
          have htb := (hF.tcF hil).h
          rw [show elT p.n.ts i = elT p.ts i from rfl] at htb
          have hdi := dw_in L (2 + p.ts.length * m + i) (s := (elT p.ts i).2.2) htb.2.1
          have hltq : i < p.ts.length := by omega
          obtain ⟨beq, oeq, hbeq, hcq⟩ := hp.tk (by intro h; rw [h] at hltq; cases hltq)
          have hcq := hcq i hltq
          refine run_auto [(46, .bool true)] 11 [true] [] [1, 3, 6, 7, 9, 10, 11, 12, 33, 34, 13, 43, 44, 45] [0, 1, 2, 3] (st' := ⟨[(1, iV (b : Int)), (3, pA b1), (6, .slice none 0 0), (7, iV 0), (9, .func (.func 65) #[] #[pA b3, pA b2]), (10, pA b4), (11, iV (inS L p.ts (b : Int) (m : Int) (2 + p.ts.length * m) (fall (T m) (dwS L (0 + 1 : Nat) ((elB p.bs b).2.2.1, (elB p.bs b).2.2.2.1))) i)), (12, iV (dwS L (0 + 1 : Nat) ((elB p.bs b).2.2.1, (elB p.bs b).2.2.2.1))), (33, iV (p.last + 1)), (34, iV (m : Int)), (13, iV (m : Int)), (43, .slice p.ta p.ts.length p.tc), (44, iV (p.ts.length : Int)), (45, iV (i : Int))], [(b4, aO #[iV (elB p.bs b).1, iV (elB p.bs b).2.1, iV (elB p.bs b).2.2.1, iV (elB p.bs b).2.2.2.1, iV (elB p.bs b).2.2.2.2.1, iV (elB p.bs b).2.2.2.2.2] 54), (b3, aO #[iV ((2 + p.ts.length * m + i : Nat) : Int)] 3), (b2, aO #[.slice aa L.length lc] 44), (b1, aO #[.slice p.ba p.bs.length p.bc, iV p.near, iV p.last, .slice p.ta p.ts.length p.tc] 33)]⟩) (acc := [(.bool true, .bool true), (.bool (decide ((i : Int) < (p.ts.length : Int))), .bool true)]) (by kernel_rfl) (by kernel_rfl) ⟨rfl, (bo hd3), trivial⟩ ?_
          refine run_v (Instr.indexAt 31 (.slice p.ta p.ts.length p.tc) (iV (i : Int)) >>= fun v => pure (Next.value v)) (some 47) (.pointer (some ⟨beq, oeq + i * 4, none⟩)) (by kernel_rfl) (fun w1 k1 h1 => (by rw [hbeq]; exact idx_off (e := 61) (n := 4) (by kernel_rfl) (by kernel_rfl) beq oeq p.ts.length p.tc .i64 i hltq (oeq + i * 4) (by omega) w1)) ?_
          refine run_v (Instr.loadAt 61 (.pointer (some ⟨beq, oeq + i * 4, none⟩)) >>= fun v => pure (Next.value v)) (some 48) (.agg #[iV (elT p.ts i).1, iV (elT p.ts i).2.1, iV (elT p.ts i).2.2.1, iV (elT p.ts i).2.2.2]) (by kernel_rfl) (fun w1 k1 h1 => load_in (off := 0) k1 (fun h => h) [iV (elT p.ts i).1, iV (elT p.ts i).2.1, iV (elT p.ts i).2.2.1, iV (elT p.ts i).2.2.2] (c4 hcq.1 hcq.2.1 hcq.2.2.1 hcq.2.2.2) (by kernel_rfl)) ?_
          refine run_new (aO #[iV 0, iV 0, iV 0, iV 0] 61) (fun b6 => pA b6) (some 15) (fun _ => by kernel_rfl) (fun b6 hb6 => ?_)
          refine run_auto [] 7 [] [0, 0] [1, 3, 6, 7, 9, 10, 11, 12, 33, 34, 13, 43, 44, 45, 15, 49, 51] [0, 1, 2, 3, 4] (st' := ⟨[(1, iV (b : Int)), (3, pA b1), (6, .slice none 0 0), (7, iV 0), (9, .func (.func 65) #[] #[pA b3, pA b2]), (10, pA b4), (11, iV (inS L p.ts (b : Int) (m : Int) (2 + p.ts.length * m) (fall (T m) (dwS L (0 + 1 : Nat) ((elB p.bs b).2.2.1, (elB p.bs b).2.2.2.1))) i)), (12, iV (dwS L (0 + 1 : Nat) ((elB p.bs b).2.2.1, (elB p.bs b).2.2.2.1))), (33, iV (p.last + 1)), (34, iV (m : Int)), (13, iV (m : Int)), (43, .slice p.ta p.ts.length p.tc), (44, iV (p.ts.length : Int)), (45, iV (i : Int)), (15, pA b6), (49, .func (.func 65) #[] #[pA b3, pA b2]), (51, .agg #[iV (elT p.ts i).2.2.1, iV (elT p.ts i).2.2.2])], [(b6, aO #[iV (elT p.ts i).1, iV (elT p.ts i).2.1, iV (elT p.ts i).2.2.1, iV (elT p.ts i).2.2.2] 61), (b4, aO #[iV (elB p.bs b).1, iV (elB p.bs b).2.1, iV (elB p.bs b).2.2.1, iV (elB p.bs b).2.2.2.1, iV (elB p.bs b).2.2.2.2.1, iV (elB p.bs b).2.2.2.2.2] 54), (b3, aO #[iV ((2 + p.ts.length * m + i : Nat) : Int)] 3), (b2, aO #[.slice aa L.length lc] 44), (b1, aO #[.slice p.ba p.bs.length p.bc, iV p.near, iV p.last, .slice p.ta p.ts.length p.tc] 33)]⟩) (acc := [(pA b6, pA b6), (pA b6, pA b6)]) (by kernel_rfl) (by kernel_rfl) ⟨rfl, rfl, trivial⟩ ?_
          refine run_wr 65 #[.agg #[iV (elT p.ts i).2.2.1, iV (elT p.ts i).2.2.2], pA b3, pA b2] (some 52) (iV (dwS L (2 + p.ts.length * m + i : Nat) (elT p.ts i).2.2)) 2 b3 (aO #[iV ((2 + p.ts.length * m + i : Nat) : Int)] 3) (aO #[iV (((2 + p.ts.length * m + i : Nat) + 1 : Nat) : Int)] 3) (by kernel_rfl) (by kernel_rfl) (by kernel_rfl) (fun w1 k1 h1 => draw_any b3 b2 (2 + p.ts.length * m + i : Nat) lc (elT p.ts i).2.2.1 (elT p.ts i).2.2.2 L aa (by omega) (by omega) (by omega) (by omega) w1 (h1 (b3, aO #[iV ((2 + p.ts.length * m + i : Nat) : Int)] 3) (List.mem_of_getElem? (i := 2) (by kernel_rfl))) (h1 (b2, aO #[.slice aa L.length lc] 44) (List.mem_of_getElem? (i := 3) (by kernel_rfl))) (hU.us (k1.keeps (fun _ h => h)) hb3) hlm) ?_
          cases hd4 : ((elT p.ts i).1 == (b : Int)) with
          | false =>
            have hp4 : ¬ (elT p.ts i).1 = (b : Int) := by simpa using hd4
            refine run_auto [(56, .bool false), (66, iV ((i + 1 : Nat) : Int))] 22 [false] [0] [1, 3, 6, 7, 9, 10, 11, 12, 33, 34, 13, 43, 44, 45] [1, 2, 3, 4] (st' := ⟨[(1, iV (b : Int)), (3, pA b1), (6, .slice none 0 0), (7, iV 0), (9, .func (.func 65) #[] #[pA b3, pA b2]), (10, pA b4), (11, iV (inS L p.ts (b : Int) (m : Int) (2 + p.ts.length * m) (fall (T m) (dwS L (0 + 1 : Nat) ((elB p.bs b).2.2.1, (elB p.bs b).2.2.2.1))) i)), (12, iV (dwS L (0 + 1 : Nat) ((elB p.bs b).2.2.1, (elB p.bs b).2.2.2.1))), (33, iV (p.last + 1)), (34, iV (m : Int)), (13, iV (m : Int)), (43, .slice p.ta p.ts.length p.tc), (44, iV (p.ts.length : Int)), (45, iV ((i + 1 : Nat) : Int))], [(b4, aO #[iV (elB p.bs b).1, iV (elB p.bs b).2.1, iV (elB p.bs b).2.2.1, iV (elB p.bs b).2.2.2.1, iV (elB p.bs b).2.2.2.2.1, iV (elB p.bs b).2.2.2.2.2] 54), (b3, aO #[iV (((2 + p.ts.length * m + i : Nat) + 1 : Nat) : Int)] 3), (b2, aO #[.slice aa L.length lc] 44), (b1, aO #[.slice p.ba p.bs.length p.bc, iV p.near, iV p.last, .slice p.ta p.ts.length p.tc] 33)]⟩) (acc := [(iV (IntKind.i64.wrap ((i : Int) + 1)), iV ((i + 1 : Nat) : Int)), (.bool false, .bool false), (.bool ((elT p.ts i).1 == (b : Int)), .bool false), (pA b6, pA b6)]) (by kernel_rfl) (by kernel_rfl) ⟨(wr (by omega) (by omega)), rfl, (bo hd4), rfl, trivial⟩ ?_
            have hst := inS_no (L := L) (ts := p.ts) (b := (b : Int)) (m := (m : Int)) (c := 2 + p.ts.length * m) (x := (fall (T m) (dwS L (0 + 1 : Nat) ((elB p.bs b).2.2.1, (elB p.bs b).2.2.2.1)))) (i := i) (by unfold isAt; rw [hd4]; rfl)
            have hj := hJ1 (i + 1) (by omega) (by omega)
            rw [hst] at hj
            exact run_round (by kernel_rfl) hj
          | true =>
            have hp4 : (elT p.ts i).1 = (b : Int) := by simpa using hd4
            cases hd5 : ((elT p.ts i).2.1 == (m : Int)) with
            | false =>
              have hp5 : ¬ (elT p.ts i).2.1 = (m : Int) := by simpa using hd5
              refine run_auto [(56, .bool true), (61, .bool false), (66, iV ((i + 1 : Nat) : Int))] 22 [false] [0, 0] [1, 3, 6, 7, 9, 10, 11, 12, 33, 34, 13, 43, 44, 45] [1, 2, 3, 4] (st' := ⟨[(1, iV (b : Int)), (3, pA b1), (6, .slice none 0 0), (7, iV 0), (9, .func (.func 65) #[] #[pA b3, pA b2]), (10, pA b4), (11, iV (inS L p.ts (b : Int) (m : Int) (2 + p.ts.length * m) (fall (T m) (dwS L (0 + 1 : Nat) ((elB p.bs b).2.2.1, (elB p.bs b).2.2.2.1))) i)), (12, iV (dwS L (0 + 1 : Nat) ((elB p.bs b).2.2.1, (elB p.bs b).2.2.2.1))), (33, iV (p.last + 1)), (34, iV (m : Int)), (13, iV (m : Int)), (43, .slice p.ta p.ts.length p.tc), (44, iV (p.ts.length : Int)), (45, iV ((i + 1 : Nat) : Int))], [(b4, aO #[iV (elB p.bs b).1, iV (elB p.bs b).2.1, iV (elB p.bs b).2.2.1, iV (elB p.bs b).2.2.2.1, iV (elB p.bs b).2.2.2.2.1, iV (elB p.bs b).2.2.2.2.2] 54), (b3, aO #[iV (((2 + p.ts.length * m + i : Nat) + 1 : Nat) : Int)] 3), (b2, aO #[.slice aa L.length lc] 44), (b1, aO #[.slice p.ba p.bs.length p.bc, iV p.near, iV p.last, .slice p.ta p.ts.length p.tc] 33)]⟩) (acc := [(iV (IntKind.i64.wrap ((i : Int) + 1)), iV ((i + 1 : Nat) : Int)), (.bool false, .bool false), (.bool ((elT p.ts i).2.1 == (m : Int)), .bool false), (pA b6, pA b6), (.bool ((elT p.ts i).1 == (b : Int)), .bool true), (pA b6, pA b6)]) (by kernel_rfl) (by kernel_rfl) ⟨(wr (by omega) (by omega)), rfl, (bo hd5), rfl, (bo hd4), rfl, trivial⟩ ?_
              have hst := inS_no (L := L) (ts := p.ts) (b := (b : Int)) (m := (m : Int)) (c := 2 + p.ts.length * m) (x := (fall (T m) (dwS L (0 + 1 : Nat) ((elB p.bs b).2.2.1, (elB p.bs b).2.2.2.1)))) (i := i) (by unfold isAt; rw [hd4, cond_true, hd5])
              have hj := hJ1 (i + 1) (by omega) (by omega)
              rw [hst] at hj
              exact run_round (by kernel_rfl) hj
            | true =>
              have hp5 : (elT p.ts i).2.1 = (m : Int) := by simpa using hd5
              refine run_auto [(56, .bool true), (61, .bool true), (65, iV ((inS L p.ts (b : Int) (m : Int) (2 + p.ts.length * m) (fall (T m) (dwS L (0 + 1 : Nat) ((elB p.bs b).2.2.1, (elB p.bs b).2.2.2.1))) i) + (dwS L (2 + p.ts.length * m + i : Nat) (elT p.ts i).2.2))), (66, iV ((i + 1 : Nat) : Int))] 27 [true] [0, 0] [1, 3, 6, 7, 9, 10, 11, 12, 33, 34, 13, 43, 44, 45] [1, 2, 3, 4] (st' := ⟨[(1, iV (b : Int)), (3, pA b1), (6, .slice none 0 0), (7, iV 0), (9, .func (.func 65) #[] #[pA b3, pA b2]), (10, pA b4), (11, iV ((inS L p.ts (b : Int) (m : Int) (2 + p.ts.length * m) (fall (T m) (dwS L (0 + 1 : Nat) ((elB p.bs b).2.2.1, (elB p.bs b).2.2.2.1))) i) + (dwS L (2 + p.ts.length * m + i : Nat) (elT p.ts i).2.2))), (12, iV (dwS L (0 + 1 : Nat) ((elB p.bs b).2.2.1, (elB p.bs b).2.2.2.1))), (33, iV (p.last + 1)), (34, iV (m : Int)), (13, iV (m : Int)), (43, .slice p.ta p.ts.length p.tc), (44, iV (p.ts.length : Int)), (45, iV ((i + 1 : Nat) : Int))], [(b4, aO #[iV (elB p.bs b).1, iV (elB p.bs b).2.1, iV (elB p.bs b).2.2.1, iV (elB p.bs b).2.2.2.1, iV (elB p.bs b).2.2.2.2.1, iV (elB p.bs b).2.2.2.2.2] 54), (b3, aO #[iV (((2 + p.ts.length * m + i : Nat) + 1 : Nat) : Int)] 3), (b2, aO #[.slice aa L.length lc] 44), (b1, aO #[.slice p.ba p.bs.length p.bc, iV p.near, iV p.last, .slice p.ta p.ts.length p.tc] 33)]⟩) (acc := [(iV (IntKind.i64.wrap ((i : Int) + 1)), iV ((i + 1 : Nat) : Int)), (iV (IntKind.i64.wrap ((inS L p.ts (b : Int) (m : Int) (2 + p.ts.length * m) (fall (T m) (dwS L (0 + 1 : Nat) ((elB p.bs b).2.2.1, (elB p.bs b).2.2.2.1))) i) + (dwS L (2 + p.ts.length * m + i : Nat) (elT p.ts i).2.2))), iV ((inS L p.ts (b : Int) (m : Int) (2 + p.ts.length * m) (fall (T m) (dwS L (0 + 1 : Nat) ((elB p.bs b).2.2.1, (elB p.bs b).2.2.2.1))) i) + (dwS L (2 + p.ts.length * m + i : Nat) (elT p.ts i).2.2))), (.bool true, .bool true), (.bool ((elT p.ts i).2.1 == (m : Int)), .bool true), (pA b6, pA b6), (.bool ((elT p.ts i).1 == (b : Int)), .bool true), (pA b6, pA b6)]) (by kernel_rfl) (by kernel_rfl) ⟨(wr (by omega) (by omega)), (wr (by omega) (by omega)), rfl, (bo hd5), rfl, (bo hd4), rfl, trivial⟩ ?_
              have hst := inS_yes (L := L) (ts := p.ts) (b := (b : Int)) (m := (m : Int)) (c := 2 + p.ts.length * m) (x := (fall (T m) (dwS L (0 + 1 : Nat) ((elB p.bs b).2.2.1, (elB p.bs b).2.2.2.1)))) (i := i) (by unfold isAt; rw [hd4, cond_true, hd5])
              have hj := hJ1 (i + 1) (by omega) (by omega)
              rw [hst] at hj
              exact run_round (by kernel_rfl) hj
  · skip
    obtain ⟨hz1, hz3⟩ := hI0
    dsimp only at hz1 hz3
    have hzl := lnT_len T m
    have hTm := hTb m (by omega)
    have hcm : p.ts.length * m ≤ 8 * 61 := Nat.mul_le_mul ht6 (by omega)
    obtain ⟨hz4, hz5, hz6, hz7, hz8⟩ := hz3
    cases hd1 : (decide ((m : Int) < (p.last + 1))) with
    | false =>
      have hp1 := of_decide_eq_false hd1
      have hme : m = p.n.N + 1 := by omega
      refine run_auto [(35, .bool false)] 13 [false] [1] [6, 7, 72, 73, 75] [0, 2, 3] (st' := ⟨[(6, sV g m cap), (7, iV 0), (72, sV g m cap), (73, .func (.func 65) #[] #[pA b3, pA b2]), (75, .agg #[iV (elB p.bs b).2.2.2.2.1, iV (elB p.bs b).2.2.2.2.2])], [(g, cO ((lnT T m).flatMap inR ++ sp) 3), (b3, aO #[iV ((2 + p.ts.length * m : Nat) : Int)] 3), (b2, aO #[.slice aa L.length lc] 44)]⟩) (acc := [(pA b4, pA b4), (.bool false, .bool false), (.bool (decide ((m : Int) < (p.last + 1))), .bool false)]) (by kernel_rfl) (by kernel_rfl) ⟨rfl, rfl, (bo hd1), trivial⟩ ?_
      refine run_wr 65 #[.agg #[iV (elB p.bs b).2.2.2.2.1, iV (elB p.bs b).2.2.2.2.2], pA b3, pA b2] (some 76) (iV (dwS L (2 + p.ts.length * m : Nat) (elB p.bs b).2.2.2.2)) 1 b3 (aO #[iV ((2 + p.ts.length * m : Nat) : Int)] 3) (aO #[iV (((2 + p.ts.length * m : Nat) + 1 : Nat) : Int)] 3) (by kernel_rfl) (by kernel_rfl) (by kernel_rfl) (fun w1 k1 h1 => draw_any b3 b2 (2 + p.ts.length * m : Nat) lc (elB p.bs b).2.2.2.2.1 (elB p.bs b).2.2.2.2.2 L aa (by omega) (by omega) (by omega) (by omega) w1 (h1 (b3, aO #[iV ((2 + p.ts.length * m : Nat) : Int)] 3) (List.mem_of_getElem? (i := 1) (by kernel_rfl))) (h1 (b2, aO #[.slice aa L.length lc] 44) (List.mem_of_getElem? (i := 2) (by kernel_rfl))) (hU.us (k1.keeps (fun _ h => h)) hb3) hlm) ?_
      refine run_auto [] 3 [] [] [6, 7] [0] (st' := ⟨[(6, sV g m cap), (7, iV (dwS L (2 + p.ts.length * m : Nat) (elB p.bs b).2.2.2.2))], [(g, cO ((lnT T m).flatMap inR ++ sp) 3)]⟩) (acc := []) (by kernel_rfl) (by kernel_rfl) trivial ?_
      refine run_end (fn := f23) rfl (Nat.le_refl _) (by kernel_rfl) [] [sV g m cap, iV (dwS L (2 + p.ts.length * m : Nat) (elB p.bs b).2.2.2.2)] (e := []) (by kernel_rfl) trivial (fun w1 k1 h1 => ?_)
      subst hme
      subst hT
      refine ⟨(g, cap, sp), trivial, rfl, k1.keeps (fun _ h => h), fun q hq => ?_, List.pairwise_singleton _ _⟩
      rw [List.mem_singleton] at hq
      subst hq
      exact ⟨h1 (g, _) (List.mem_of_getElem? (i := 0) rfl), hz8⟩
    | true =>
      have hp1 := of_decide_eq_true hd1
      cases hd2 : (decide (0 < (m : Int))) with
      | false =>
        have hp2 := of_decide_eq_false hd2
        refine run_auto [(35, .bool true), (38, .bool false)] 31 [true, false] [4] [1, 3, 6, 7, 9, 10, 11, 12, 33, 34, 13, 43, 44, 45] [0, 1, 2, 3, 4] (st' := ⟨[(1, iV (b : Int)), (3, pA b1), (6, sV g m cap), (7, iV 0), (9, .func (.func 65) #[] #[pA b3, pA b2]), (10, pA b4), (11, iV (T m)), (12, iV (dwS L (0 + 1 : Nat) ((elB p.bs b).2.2.1, (elB p.bs b).2.2.2.1))), (33, iV (p.last + 1)), (34, iV (m : Int)), (13, iV (m : Int)), (43, .slice p.ta p.ts.length p.tc), (44, iV (p.ts.length : Int)), (45, iV 0)], [(g, cO ((lnT T m).flatMap inR ++ sp) 3), (b4, aO #[iV (elB p.bs b).1, iV (elB p.bs b).2.1, iV (elB p.bs b).2.2.1, iV (elB p.bs b).2.2.2.1, iV (elB p.bs b).2.2.2.2.1, iV (elB p.bs b).2.2.2.2.2] 54), (b3, aO #[iV ((2 + p.ts.length * m : Nat) : Int)] 3), (b2, aO #[.slice aa L.length lc] 44), (b1, aO #[.slice p.ba p.bs.length p.bc, iV p.near, iV p.last, .slice p.ta p.ts.length p.tc] 33)]⟩) (acc := [(pA b1, pA b1), (.bool false, .bool false), (.bool (decide (0 < (m : Int))), .bool false), (.bool true, .bool true), (.bool (decide ((m : Int) < (p.last + 1))), .bool true)]) (by kernel_rfl) (by kernel_rfl) ⟨rfl, rfl, (bo hd2), rfl, (bo hd1), trivial⟩ ?_
        refine run_auto [] 0 [] [] [1, 3, 6, 7, 9, 10, 11, 12, 33, 34, 13, 43, 44, 45] [0, 1, 2, 3, 4] (st' := ⟨[(1, iV (b : Int)), (3, pA b1), (6, sV g m cap), (7, iV 0), (9, .func (.func 65) #[] #[pA b3, pA b2]), (10, pA b4), (11, iV (T m)), (12, iV (dwS L (0 + 1 : Nat) ((elB p.bs b).2.2.1, (elB p.bs b).2.2.2.1))), (33, iV (p.last + 1)), (34, iV (m : Int)), (13, iV (m : Int)), (43, .slice p.ta p.ts.length p.tc), (44, iV (p.ts.length : Int)), (45, iV 0)], [(g, cO ((lnT T m).flatMap inR ++ sp) 3), (b4, aO #[iV (elB p.bs b).1, iV (elB p.bs b).2.1, iV (elB p.bs b).2.2.1, iV (elB p.bs b).2.2.2.1, iV (elB p.bs b).2.2.2.2.1, iV (elB p.bs b).2.2.2.2.2] 54), (b3, aO #[iV ((2 + p.ts.length * m : Nat) : Int)] 3), (b2, aO #[.slice aa L.length lc] 44), (b1, aO #[.slice p.ba p.bs.length p.bc, iV p.near, iV p.last, .slice p.ta p.ts.length p.tc] 33)]⟩) (acc := []) (by kernel_rfl) (by kernel_rfl) trivial ?_
        refine run_loop (S := fun (i : Nat) => ⟨[(1, iV (b : Int)), (3, pA b1), (6, sV g m cap), (7, iV 0), (9, .func (.func 65) #[] #[pA b3, pA b2]), (10, pA b4), (11, iV (inS L p.ts (b : Int) (m : Int) (2 + p.ts.length * m) (T m) i)), (12, iV (dwS L (0 + 1 : Nat) ((elB p.bs b).2.2.1, (elB p.bs b).2.2.2.1))), (33, iV (p.last + 1)), (34, iV (m : Int)), (13, iV (m : Int)), (43, .slice p.ta p.ts.length p.tc), (44, iV (p.ts.length : Int)), (45, iV (i : Int))], [(g, cO ((lnT T m).flatMap inR ++ sp) 3), (b4, aO #[iV (elB p.bs b).1, iV (elB p.bs b).2.1, iV (elB p.bs b).2.2.1, iV (elB p.bs b).2.2.2.1, iV (elB p.bs b).2.2.2.2.1, iV (elB p.bs b).2.2.2.2.2] 54), (b3, aO #[iV ((2 + p.ts.length * m + i : Nat) : Int)] 3), (b2, aO #[.slice aa L.length lc] 44), (b1, aO #[.slice p.ba p.bs.length p.bc, iV p.near, iV p.last, .slice p.ta p.ts.length p.tc] 33)]⟩) (fun i => i ≤ p.ts.length) (fun i => p.ts.length - i) (0) (by kernel_rfl) (Nat.zero_le _) (by kernel_rfl) (fun i hI1 J1 hJ1 => ?_)
        have hii := hI1
        have hib := inS_bd hF L (b : Int) (m : Int) (2 + p.ts.length * m) (x := (T m)) (d := 60000) (by omega) i hii
        rw [show p.n.ts = p.ts from rfl] at hib
        cases hd3 : (decide ((i : Int) < (p.ts.length : Int))) with
        | false =>
          have hp3 := of_decide_eq_false hd3
          have hie : i = p.ts.length := by omega
          refine run_auto [(46, .bool false)] 10 [false] [] [1, 3, 6, 7, 9, 10, 11, 12, 33, 34, 67, 68] [0, 1, 2, 3, 4] (st' := ⟨[(1, iV (b : Int)), (3, pA b1), (6, sV g m cap), (7, iV 0), (9, .func (.func 65) #[] #[pA b3, pA b2]), (10, pA b4), (11, iV (inS L p.ts (b : Int) (m : Int) (2 + p.ts.length * m) (T m) i)), (12, iV (dwS L (0 + 1 : Nat) ((elB p.bs b).2.2.1, (elB p.bs b).2.2.2.1))), (33, iV (p.last + 1)), (34, iV (m : Int)), (67, sV g m cap), (68, iV (inS L p.ts (b : Int) (m : Int) (2 + p.ts.length * m) (T m) i))], [(g, cO ((lnT T m).flatMap inR ++ sp) 3), (b4, aO #[iV (elB p.bs b).1, iV (elB p.bs b).2.1, iV (elB p.bs b).2.2.1, iV (elB p.bs b).2.2.2.1, iV (elB p.bs b).2.2.2.2.1, iV (elB p.bs b).2.2.2.2.2] 54), (b3, aO #[iV ((2 + p.ts.length * m + i : Nat) : Int)] 3), (b2, aO #[.slice aa L.length lc] 44), (b1, aO #[.slice p.ba p.bs.length p.bc, iV p.near, iV p.last, .slice p.ta p.ts.length p.tc] 33)]⟩) (acc := [(.bool false, .bool false), (.bool (decide ((i : Int) < (p.ts.length : Int))), .bool false)]) (by kernel_rfl) (by kernel_rfl) ⟨rfl, (bo hd3), trivial⟩ ?_
          refine run_new (aO #[iV (inS L p.ts (b : Int) (m : Int) (2 + p.ts.length * m) (T m) i)] 3) (fun b6 => sV b6 1 1) (some 69) (fun _ => by kernel_rfl) (fun b6 hb6 => ?_)
          refine run_app (t := 46) (ty := 46) (e := 3) (n := 1) (z := (iV 0)) (by kernel_rfl) (by kernel_rfl) (by kernel_rfl) rfl (by kernel_rfl) inR inR_len inR_one (some 70) 1 g m 1 cap 1 (lnT T m) ([(inS L p.ts (b : Int) (m : Int) (2 + p.ts.length * m) (T m) i)] : List Int) sp ⟨b6, 0, none⟩ (by first | rfl | omega | (simp; done) | (simp; omega)) (by first | rfl | omega | (simp; done) | (simp; omega)) (by kernel_rfl) (by kernel_rfl) hz6 hz7 (fun w1 k1 h1 jq uq hu => by rw [add_none, Nat.zero_add]; exact cells_of_heap (h1 (b6, aO #[iV (inS L p.ts (b : Int) (m : Int) (2 + p.ts.length * m) (T m) i)] 3) (List.mem_of_getElem? (i := 0) (by kernel_rfl))) jq uq hu) (by omega) hz8 (fun b7 cap7 sp7 hb7 hqb7 hmb7 hlb7 => ?_)
          refine run_auto [(71, iV ((m + 1 : Nat) : Int))] 7 [] [] [1, 3, 6, 7, 9, 10, 11, 12, 33, 34] [0, 2, 3, 4, 5] (st' := ⟨[(1, iV (b : Int)), (3, pA b1), (6, sV b7 (m + 1) cap7), (7, iV 0), (9, .func (.func 65) #[] #[pA b3, pA b2]), (10, pA b4), (11, iV (inS L p.ts (b : Int) (m : Int) (2 + p.ts.length * m) (T m) i)), (12, iV (dwS L (0 + 1 : Nat) ((elB p.bs b).2.2.1, (elB p.bs b).2.2.2.1))), (33, iV (p.last + 1)), (34, iV ((m + 1 : Nat) : Int))], [(b7, cO ((lnT T m ++ ([(inS L p.ts (b : Int) (m : Int) (2 + p.ts.length * m) (T m) i)] : List Int)).flatMap inR ++ sp7) 3), (b4, aO #[iV (elB p.bs b).1, iV (elB p.bs b).2.1, iV (elB p.bs b).2.2.1, iV (elB p.bs b).2.2.2.1, iV (elB p.bs b).2.2.2.2.1, iV (elB p.bs b).2.2.2.2.2] 54), (b3, aO #[iV ((2 + p.ts.length * m + i : Nat) : Int)] 3), (b2, aO #[.slice aa L.length lc] 44), (b1, aO #[.slice p.ba p.bs.length p.bc, iV p.near, iV p.last, .slice p.ta p.ts.length p.tc] 33)]⟩) (acc := [(iV (IntKind.i64.wrap ((m : Int) + 1)), iV ((m + 1 : Nat) : Int))]) (by kernel_rfl) (by kernel_rfl) ⟨(wr (by omega) (by omega)), trivial⟩ ?_
          have hst : T (m + 1) = inS L p.ts (b : Int) (m : Int) (2 + p.ts.length * m) (T m) i := by rw [← stM_zero (x := T m) (k := (dwS L (0 + 1) ((elB p.bs b).2.2.1, (elB p.bs b).2.2.2.1))) (m := m) (by omega), hie, ← hT]; rfl
          have hln := lnT_next T m
          rw [hst] at hln
          have hct : 2 + p.ts.length * (m + 1) = 2 + p.ts.length * m + i := by rw [hie, Nat.mul_succ]; omega
          have hj := hJ0 ((m + 1, some (b7, cap7, sp7))) (⟨by dsimp only; omega, by dsimp only; omega, hqb7, hmb7, by dsimp only; rw [hln]; exact hlb7, hb7⟩) (by dsimp only; omega)
          dsimp only at hj
          rw [hln, hst, hct] at hj
          exact run_round (by kernel_rfl) hj
        | true =>
          have hp3 := of_decide_eq_true hd3
          have hil : i < p.ts.length := by omega
          have htb := (hF.tcF hil).h
          rw [show elT p.n.ts i = elT p.ts i from rfl] at htb
          have hdi := dw_in L (2 + p.ts.length * m + i) (s := (elT p.ts i).2.2) htb.2.1
          have hltq : i < p.ts.length := by omega
          obtain ⟨beq, oeq, hbeq, hcq⟩ := hp.tk (by intro h; rw [h] at hltq; cases hltq)
          have hcq := hcq i hltq
          refine run_auto [(46, .bool true)] 11 [true] [] [1, 3, 6, 7, 9, 10, 11, 12, 33, 34, 13, 43, 44, 45] [0, 1, 2, 3, 4] (st' := ⟨[(1, iV (b : Int)), (3, pA b1), (6, sV g m cap), (7, iV 0), (9, .func (.func 65) #[] #[pA b3, pA b2]), (10, pA b4), (11, iV (inS L p.ts (b : Int) (m : Int) (2 + p.ts.length * m) (T m) i)), (12, iV (dwS L (0 + 1 : Nat) ((elB p.bs b).2.2.1, (elB p.bs b).2.2.2.1))), (33, iV (p.last + 1)), (34, iV (m : Int)), (13, iV (m : Int)), (43, .slice p.ta p.ts.length p.tc), (44, iV (p.ts.length : Int)), (45, iV (i : Int))], [(g, cO ((lnT T m).flatMap inR ++ sp) 3), (b4, aO #[iV (elB p.bs b).1, iV (elB p.bs b).2.1, iV (elB p.bs b).2.2.1, iV (elB p.bs b).2.2.2.1, iV (elB p.bs b).2.2.2.2.1, iV (elB p.bs b).2.2.2.2.2] 54), (b3, aO #[iV ((2 + p.ts.length * m + i : Nat) : Int)] 3), (b2, aO #[.slice aa L.length lc] 44), (b1, aO #[.slice p.ba p.bs.length p.bc, iV p.near, iV p.last, .slice p.ta p.ts.length p.tc] 33)]⟩) (acc := [(.bool true, .bool true), (.bool (decide ((i : Int) < (p.ts.length : Int))), .bool true)]) (by kernel_rfl) (by kernel_rfl) ⟨rfl, (bo hd3), trivial⟩ ?_
          refine run_v (Instr.indexAt 31 (.slice p.ta p.ts.length p.tc) (iV (i : Int)) >>= fun v => pure (Next.value v)) (some 47) (.pointer (some ⟨beq, oeq + i * 4, none⟩)) (by kernel_rfl) (fun w1 k1 h1 => (by rw [hbeq]; exact idx_off (e := 61) (n := 4) (by kernel_rfl) (by kernel_rfl) beq oeq p.ts.length p.tc .i64 i hltq (oeq + i * 4) (by omega) w1)) ?_
          refine run_v (Instr.loadAt 61 (.pointer (some ⟨beq, oeq + i * 4, none⟩)) >>= fun v => pure (Next.value v)) (some 48) (.agg #[iV (elT p.ts i).1, iV (elT p.ts i).2.1, iV (elT p.ts i).2.2.1, iV (elT p.ts i).2.2.2]) (by kernel_rfl) (fun w1 k1 h1 => load_in (off := 0) k1 (fun h => h) [iV (elT p.ts i).1, iV (elT p.ts i).2.1, iV (elT p.ts i).2.2.1, iV (elT p.ts i).2.2.2] (c4 hcq.1 hcq.2.1 hcq.2.2.1 hcq.2.2.2) (by kernel_rfl)) ?_
          refine run_new (aO #[iV 0, iV 0, iV 0, iV 0] 61) (fun b6 => pA b6) (some 15) (fun _ => by kernel_rfl) (fun b6 hb6 => ?_)
          refine run_auto [] 7 [] [0, 0] [1, 3, 6, 7, 9, 10, 11, 12, 33, 34, 13, 43, 44, 45, 15, 49, 51] [0, 1, 2, 3, 4, 5] (st' := ⟨[(1, iV (b : Int)), (3, pA b1), (6, sV g m cap), (7, iV 0), (9, .func (.func 65) #[] #[pA b3, pA b2]), (10, pA b4), (11, iV (inS L p.ts (b : Int) (m : Int) (2 + p.ts.length * m) (T m) i)), (12, iV (dwS L (0 + 1 : Nat) ((elB p.bs b).2.2.1, (elB p.bs b).2.2.2.1))), (33, iV (p.last + 1)), (34, iV (m : Int)), (13, iV (m : Int)), (43, .slice p.ta p.ts.length p.tc), (44, iV (p.ts.length : Int)), (45, iV (i : Int)), (15, pA b6), (49, .func (.func 65) #[] #[pA b3, pA b2]), (51, .agg #[iV (elT p.ts i).2.2.1, iV (elT p.ts i).2.2.2])], [(b6, aO #[iV (elT p.ts i).1, iV (elT p.ts i).2.1, iV (elT p.ts i).2.2.1, iV (elT p.ts i).2.2.2] 61), (g, cO ((lnT T m).flatMap inR ++ sp) 3), (b4, aO #[iV (elB p.bs b).1, iV (elB p.bs b).2.1, iV (elB p.bs b).2.2.1, iV (elB p.bs b).2.2.2.1, iV (elB p.bs b).2.2.2.2.1, iV (elB p.bs b).2.2.2.2.2] 54), (b3, aO #[iV ((2 + p.ts.length * m + i : Nat) : Int)] 3), (b2, aO #[.slice aa L.length lc] 44), (b1, aO #[.slice p.ba p.bs.length p.bc, iV p.near, iV p.last, .slice p.ta p.ts.length p.tc] 33)]⟩) (acc := [(pA b6, pA b6), (pA b6, pA b6)]) (by kernel_rfl) (by kernel_rfl) ⟨rfl, rfl, trivial⟩ ?_
          refine run_wr 65 #[.agg #[iV (elT p.ts i).2.2.1, iV (elT p.ts i).2.2.2], pA b3, pA b2] (some 52) (iV (dwS L (2 + p.ts.length * m + i : Nat) (elT p.ts i).2.2)) 3 b3 (aO #[iV ((2 + p.ts.length * m + i : Nat) : Int)] 3) (aO #[iV (((2 + p.ts.length * m + i : Nat) + 1 : Nat) : Int)] 3) (by kernel_rfl) (by kernel_rfl) (by kernel_rfl) (fun w1 k1 h1 => draw_any b3 b2 (2 + p.ts.length * m + i : Nat) lc (elT p.ts i).2.2.1 (elT p.ts i).2.2.2 L aa (by omega) (by omega) (by omega) (by omega) w1 (h1 (b3, aO #[iV ((2 + p.ts.length * m + i : Nat) : Int)] 3) (List.mem_of_getElem? (i := 3) (by kernel_rfl))) (h1 (b2, aO #[.slice aa L.length lc] 44) (List.mem_of_getElem? (i := 4) (by kernel_rfl))) (hU.us (k1.keeps (fun _ h => h)) hb3) hlm) ?_
          cases hd4 : ((elT p.ts i).1 == (b : Int)) with
          | false =>
            have hp4 : ¬ (elT p.ts i).1 = (b : Int) := by simpa using hd4
            refine run_auto [(56, .bool false), (66, iV ((i + 1 : Nat) : Int))] 22 [false] [0] [1, 3, 6, 7, 9, 10, 11, 12, 33, 34, 13, 43, 44, 45] [1, 2, 3, 4, 5] (st' := ⟨[(1, iV (b : Int)), (3, pA b1), (6, sV g m cap), (7, iV 0), (9, .func (.func 65) #[] #[pA b3, pA b2]), (10, pA b4), (11, iV (inS L p.ts (b : Int) (m : Int) (2 + p.ts.length * m) (T m) i)), (12, iV (dwS L (0 + 1 : Nat) ((elB p.bs b).2.2.1, (elB p.bs b).2.2.2.1))), (33, iV (p.last + 1)), (34, iV (m : Int)), (13, iV (m : Int)), (43, .slice p.ta p.ts.length p.tc), (44, iV (p.ts.length : Int)), (45, iV ((i + 1 : Nat) : Int))], [(g, cO ((lnT T m).flatMap inR ++ sp) 3), (b4, aO #[iV (elB p.bs b).1, iV (elB p.bs b).2.1, iV (elB p.bs b).2.2.1, iV (elB p.bs b).2.2.2.1, iV (elB p.bs b).2.2.2.2.1, iV (elB p.bs b).2.2.2.2.2] 54), (b3, aO #[iV (((2 + p.ts.length * m + i : Nat) + 1 : Nat) : Int)] 3), (b2, aO #[.slice aa L.length lc] 44), (b1, aO #[.slice p.ba p.bs.length p.bc, iV p.near, iV p.last, .slice p.ta p.ts.length p.tc] 33)]⟩) (acc := [(iV (IntKind.i64.wrap ((i : Int) + 1)), iV ((i + 1 : Nat) : Int)), (.bool false, .bool false), (.bool ((elT p.ts i).1 == (b : Int)), .bool false), (pA b6, pA b6)]) (by kernel_rfl) (by kernel_rfl) ⟨(wr (by omega) (by omega)), rfl, (bo hd4), rfl, trivial⟩ ?_
            have hst := inS_no (L := L) (ts := p.ts) (b := (b : Int)) (m := (m : Int)) (c := 2 + p.ts.length * m) (x := (T m)) (i := i) (by unfold isAt; rw [hd4]; rfl)
            have hj := hJ1 (i + 1) (by omega) (by omega)
            rw [hst] at hj
            exact run_round (by kernel_rfl) hj
          | true =>
            have hp4 : (elT p.ts i).1 = (b : Int) := by simpa using hd4
            cases hd5 : ((elT p.ts i).2.1 == (m : Int)) with
            | false =>
              have hp5 : ¬ (elT p.ts i).2.1 = (m : Int) := by simpa using hd5
              refine run_auto [(56, .bool true), (61, .bool false), (66, iV ((i + 1 : Nat) : Int))] 22 [false] [0, 0] [1, 3, 6, 7, 9, 10, 11, 12, 33, 34, 13, 43, 44, 45] [1, 2, 3, 4, 5] (st' := ⟨[(1, iV (b : Int)), (3, pA b1), (6, sV g m cap), (7, iV 0), (9, .func (.func 65) #[] #[pA b3, pA b2]), (10, pA b4), (11, iV (inS L p.ts (b : Int) (m : Int) (2 + p.ts.length * m) (T m) i)), (12, iV (dwS L (0 + 1 : Nat) ((elB p.bs b).2.2.1, (elB p.bs b).2.2.2.1))), (33, iV (p.last + 1)), (34, iV (m : Int)), (13, iV (m : Int)), (43, .slice p.ta p.ts.length p.tc), (44, iV (p.ts.length : Int)), (45, iV ((i + 1 : Nat) : Int))], [(g, cO ((lnT T m).flatMap inR ++ sp) 3), (b4, aO #[iV (elB p.bs b).1, iV (elB p.bs b).2.1, iV (elB p.bs b).2.2.1, iV (elB p.bs b).2.2.2.1, iV (elB p.bs b).2.2.2.2.1, iV (elB p.bs b).2.2.2.2.2] 54), (b3, aO #[iV (((2 + p.ts.length * m + i : Nat) + 1 : Nat) : Int)] 3), (b2, aO #[.slice aa L.length lc] 44), (b1, aO #[.slice p.ba p.bs.length p.bc, iV p.near, iV p.last, .slice p.ta p.ts.length p.tc] 33)]⟩) (acc := [(iV (IntKind.i64.wrap ((i : Int) + 1)), iV ((i + 1 : Nat) : Int)), (.bool false, .bool false), (.bool ((elT p.ts i).2.1 == (m : Int)), .bool false), (pA b6, pA b6), (.bool ((elT p.ts i).1 == (b : Int)), .bool true), (pA b6, pA b6)]) (by kernel_rfl) (by kernel_rfl) ⟨(wr (by omega) (by omega)), rfl, (bo hd5), rfl, (bo hd4), rfl, trivial⟩ ?_
              have hst := inS_no (L := L) (ts := p.ts) (b := (b : Int)) (m := (m : Int)) (c := 2 + p.ts.length * m) (x := (T m)) (i := i) (by unfold isAt; rw [hd4, cond_true, hd5])
              have hj := hJ1 (i + 1) (by omega) (by omega)
              rw [hst] at hj
              exact run_round (by kernel_rfl) hj
            | true =>
              have hp5 : (elT p.ts i).2.1 = (m : Int) := by simpa using hd5
              refine run_auto [(56, .bool true), (61, .bool true), (65, iV ((inS L p.ts (b : Int) (m : Int) (2 + p.ts.length * m) (T m) i) + (dwS L (2 + p.ts.length * m + i : Nat) (elT p.ts i).2.2))), (66, iV ((i + 1 : Nat) : Int))] 27 [true] [0, 0] [1, 3, 6, 7, 9, 10, 11, 12, 33, 34, 13, 43, 44, 45] [1, 2, 3, 4, 5] (st' := ⟨[(1, iV (b : Int)), (3, pA b1), (6, sV g m cap), (7, iV 0), (9, .func (.func 65) #[] #[pA b3, pA b2]), (10, pA b4), (11, iV ((inS L p.ts (b : Int) (m : Int) (2 + p.ts.length * m) (T m) i) + (dwS L (2 + p.ts.length * m + i : Nat) (elT p.ts i).2.2))), (12, iV (dwS L (0 + 1 : Nat) ((elB p.bs b).2.2.1, (elB p.bs b).2.2.2.1))), (33, iV (p.last + 1)), (34, iV (m : Int)), (13, iV (m : Int)), (43, .slice p.ta p.ts.length p.tc), (44, iV (p.ts.length : Int)), (45, iV ((i + 1 : Nat) : Int))], [(g, cO ((lnT T m).flatMap inR ++ sp) 3), (b4, aO #[iV (elB p.bs b).1, iV (elB p.bs b).2.1, iV (elB p.bs b).2.2.1, iV (elB p.bs b).2.2.2.1, iV (elB p.bs b).2.2.2.2.1, iV (elB p.bs b).2.2.2.2.2] 54), (b3, aO #[iV (((2 + p.ts.length * m + i : Nat) + 1 : Nat) : Int)] 3), (b2, aO #[.slice aa L.length lc] 44), (b1, aO #[.slice p.ba p.bs.length p.bc, iV p.near, iV p.last, .slice p.ta p.ts.length p.tc] 33)]⟩) (acc := [(iV (IntKind.i64.wrap ((i : Int) + 1)), iV ((i + 1 : Nat) : Int)), (iV (IntKind.i64.wrap ((inS L p.ts (b : Int) (m : Int) (2 + p.ts.length * m) (T m) i) + (dwS L (2 + p.ts.length * m + i : Nat) (elT p.ts i).2.2))), iV ((inS L p.ts (b : Int) (m : Int) (2 + p.ts.length * m) (T m) i) + (dwS L (2 + p.ts.length * m + i : Nat) (elT p.ts i).2.2))), (.bool true, .bool true), (.bool ((elT p.ts i).2.1 == (m : Int)), .bool true), (pA b6, pA b6), (.bool ((elT p.ts i).1 == (b : Int)), .bool true), (pA b6, pA b6)]) (by kernel_rfl) (by kernel_rfl) ⟨(wr (by omega) (by omega)), (wr (by omega) (by omega)), rfl, (bo hd5), rfl, (bo hd4), rfl, trivial⟩ ?_
              have hst := inS_yes (L := L) (ts := p.ts) (b := (b : Int)) (m := (m : Int)) (c := 2 + p.ts.length * m) (x := (T m)) (i := i) (by unfold isAt; rw [hd4, cond_true, hd5])
              have hj := hJ1 (i + 1) (by omega) (by omega)
              rw [hst] at hj
              exact run_round (by kernel_rfl) hj
      | true =>
        have hp2 := of_decide_eq_true hd2
        have hfb := fall_bd (x := T m) (k := (dwS L (0 + 1) ((elB p.bs b).2.2.1, (elB p.bs b).2.2.2.1))) 60000 (by omega) ⟨by omega, by omega⟩
        refine run_auto [(35, .bool true), (38, .bool true)] 24 [true, true] [] [1, 3, 6, 7, 9, 10, 11, 12, 33, 34, 13, 39, 40] [0, 1, 2, 3, 4] (st' := ⟨[(1, iV (b : Int)), (3, pA b1), (6, sV g m cap), (7, iV 0), (9, .func (.func 65) #[] #[pA b3, pA b2]), (10, pA b4), (11, iV (T m)), (12, iV (dwS L (0 + 1 : Nat) ((elB p.bs b).2.2.1, (elB p.bs b).2.2.2.1))), (33, iV (p.last + 1)), (34, iV (m : Int)), (13, iV (m : Int)), (39, iV (T m)), (40, iV (dwS L (0 + 1 : Nat) ((elB p.bs b).2.2.1, (elB p.bs b).2.2.2.1)))], [(g, cO ((lnT T m).flatMap inR ++ sp) 3), (b4, aO #[iV (elB p.bs b).1, iV (elB p.bs b).2.1, iV (elB p.bs b).2.2.1, iV (elB p.bs b).2.2.2.1, iV (elB p.bs b).2.2.2.2.1, iV (elB p.bs b).2.2.2.2.2] 54), (b3, aO #[iV ((2 + p.ts.length * m : Nat) : Int)] 3), (b2, aO #[.slice aa L.length lc] 44), (b1, aO #[.slice p.ba p.bs.length p.bc, iV p.near, iV p.last, .slice p.ta p.ts.length p.tc] 33)]⟩) (acc := [(.bool true, .bool true), (.bool (decide (0 < (m : Int))), .bool true), (.bool true, .bool true), (.bool (decide ((m : Int) < (p.last + 1))), .bool true)]) (by kernel_rfl) (by kernel_rfl) ⟨rfl, (bo hd2), rfl, (bo hd1), trivial⟩ ?_
        refine run_ret1 66 #[iV (T m), iV (dwS L (0 + 1 : Nat) ((elB p.bs b).2.2.1, (elB p.bs b).2.2.2.1))] (some 41) (iV (fall (T m) (dwS L (0 + 1 : Nat) ((elB p.bs b).2.2.1, (elB p.bs b).2.2.2.1)))) (by kernel_rfl) (fun w1 k1 h1 => falls_any (T m) (dwS L (0 + 1 : Nat) ((elB p.bs b).2.2.1, (elB p.bs b).2.2.2.1)) (by omega) (by omega) (by omega) (by omega) w1) ?_
        refine run_auto [] 11 [] [4] [1, 3, 6, 7, 9, 10, 11, 12, 33, 34, 13, 43, 44, 45] [0, 1, 2, 3, 4] (st' := ⟨[(1, iV (b : Int)), (3, pA b1), (6, sV g m cap), (7, iV 0), (9, .func (.func 65) #[] #[pA b3, pA b2]), (10, pA b4), (11, iV (fall (T m) (dwS L (0 + 1 : Nat) ((elB p.bs b).2.2.1, (elB p.bs b).2.2.2.1)))), (12, iV (dwS L (0 + 1 : Nat) ((elB p.bs b).2.2.1, (elB p.bs b).2.2.2.1))), (33, iV (p.last + 1)), (34, iV (m : Int)), (13, iV (m : Int)), (43, .slice p.ta p.ts.length p.tc), (44, iV (p.ts.length : Int)), (45, iV 0)], [(g, cO ((lnT T m).flatMap inR ++ sp) 3), (b4, aO #[iV (elB p.bs b).1, iV (elB p.bs b).2.1, iV (elB p.bs b).2.2.1, iV (elB p.bs b).2.2.2.1, iV (elB p.bs b).2.2.2.2.1, iV (elB p.bs b).2.2.2.2.2] 54), (b3, aO #[iV ((2 + p.ts.length * m : Nat) : Int)] 3), (b2, aO #[.slice aa L.length lc] 44), (b1, aO #[.slice p.ba p.bs.length p.bc, iV p.near, iV p.last, .slice p.ta p.ts.length p.tc] 33)]⟩) (acc := [(pA b1, pA b1)]) (by kernel_rfl) (by kernel_rfl) ⟨rfl, trivial⟩ ?_
        refine run_auto [] 0 [] [] [1, 3, 6, 7, 9, 10, 11, 12, 33, 34, 13, 43, 44, 45] [0, 1, 2, 3, 4] (st' := ⟨[(1, iV (b : Int)), (3, pA b1), (6, sV g m cap), (7, iV 0), (9, .func (.func 65) #[] #[pA b3, pA b2]), (10, pA b4), (11, iV (fall (T m) (dwS L (0 + 1 : Nat) ((elB p.bs b).2.2.1, (elB p.bs b).2.2.2.1)))), (12, iV (dwS L (0 + 1 : Nat) ((elB p.bs b).2.2.1, (elB p.bs b).2.2.2.1))), (33, iV (p.last + 1)), (34, iV (m : Int)), (13, iV (m : Int)), (43, .slice p.ta p.ts.length p.tc), (44, iV (p.ts.length : Int)), (45, iV 0)], [(g, cO ((lnT T m).flatMap inR ++ sp) 3), (b4, aO #[iV (elB p.bs b).1, iV (elB p.bs b).2.1, iV (elB p.bs b).2.2.1, iV (elB p.bs b).2.2.2.1, iV (elB p.bs b).2.2.2.2.1, iV (elB p.bs b).2.2.2.2.2] 54), (b3, aO #[iV ((2 + p.ts.length * m : Nat) : Int)] 3), (b2, aO #[.slice aa L.length lc] 44), (b1, aO #[.slice p.ba p.bs.length p.bc, iV p.near, iV p.last, .slice p.ta p.ts.length p.tc] 33)]⟩) (acc := []) (by kernel_rfl) (by kernel_rfl) trivial ?_
        refine run_loop (S := fun (i : Nat) => ⟨[(1, iV (b : Int)), (3, pA b1), (6, sV g m cap), (7, iV 0), (9, .func (.func 65) #[] #[pA b3, pA b2]), (10, pA b4), (11, iV (inS L p.ts (b : Int) (m : Int) (2 + p.ts.length * m) (fall (T m) (dwS L (0 + 1 : Nat) ((elB p.bs b).2.2.1, (elB p.bs b).2.2.2.1))) i)), (12, iV (dwS L (0 + 1 : Nat) ((elB p.bs b).2.2.1, (elB p.bs b).2.2.2.1))), (33, iV (p.last + 1)), (34, iV (m : Int)), (13, iV (m : Int)), (43, .slice p.ta p.ts.length p.tc), (44, iV (p.ts.length : Int)), (45, iV (i : Int))], [(g, cO ((lnT T m).flatMap inR ++ sp) 3), (b4, aO #[iV (elB p.bs b).1, iV (elB p.bs b).2.1, iV (elB p.bs b).2.2.1, iV (elB p.bs b).2.2.2.1, iV (elB p.bs b).2.2.2.2.1, iV (elB p.bs b).2.2.2.2.2] 54), (b3, aO #[iV ((2 + p.ts.length * m + i : Nat) : Int)] 3), (b2, aO #[.slice aa L.length lc] 44), (b1, aO #[.slice p.ba p.bs.length p.bc, iV p.near, iV p.last, .slice p.ta p.ts.length p.tc] 33)]⟩) (fun i => i ≤ p.ts.length) (fun i => p.ts.length - i) (0) (by kernel_rfl) (Nat.zero_le _) (by kernel_rfl) (fun i hI1 J1 hJ1 => ?_)
        have hii := hI1
        have hib := inS_bd hF L (b : Int) (m : Int) (2 + p.ts.length * m) (x := (fall (T m) (dwS L (0 + 1 : Nat) ((elB p.bs b).2.2.1, (elB p.bs b).2.2.2.1)))) (d := 60000) (by omega) i hii
        rw [show p.n.ts = p.ts from rfl] at hib
        cases hd3 : (decide ((i : Int) < (p.ts.length : Int))) with
        | false =>
          have hp3 := of_decide_eq_false hd3
          have hie : i = p.ts.length := by omega
          refine run_auto [(46, .bool false)] 10 [false] [] [1, 3, 6, 7, 9, 10, 11, 12, 33, 34, 67, 68] [0, 1, 2, 3, 4] (st' := ⟨[(1, iV (b : Int)), (3, pA b1), (6, sV g m cap), (7, iV 0), (9, .func (.func 65) #[] #[pA b3, pA b2]), (10, pA b4), (11, iV (inS L p.ts (b : Int) (m : Int) (2 + p.ts.length * m) (fall (T m) (dwS L (0 + 1 : Nat) ((elB p.bs b).2.2.1, (elB p.bs b).2.2.2.1))) i)), (12, iV (dwS L (0 + 1 : Nat) ((elB p.bs b).2.2.1, (elB p.bs b).2.2.2.1))), (33, iV (p.last + 1)), (34, iV (m : Int)), (67, sV g m cap), (68, iV (inS L p.ts (b : Int) (m : Int) (2 + p.ts.length * m) (fall (T m) (dwS L (0 + 1 : Nat) ((elB p.bs b).2.2.1, (elB p.bs b).2.2.2.1))) i))], [(g, cO ((lnT T m).flatMap inR ++ sp) 3), (b4, aO #[iV (elB p.bs b).1, iV (elB p.bs b).2.1, iV (elB p.bs b).2.2.1, iV (elB p.bs b).2.2.2.1, iV (elB p.bs b).2.2.2.2.1, iV (elB p.bs b).2.2.2.2.2] 54), (b3, aO #[iV ((2 + p.ts.length * m + i : Nat) : Int)] 3), (b2, aO #[.slice aa L.length lc] 44), (b1, aO #[.slice p.ba p.bs.length p.bc, iV p.near, iV p.last, .slice p.ta p.ts.length p.tc] 33)]⟩) (acc := [(.bool false, .bool false), (.bool (decide ((i : Int) < (p.ts.length : Int))), .bool false)]) (by kernel_rfl) (by kernel_rfl) ⟨rfl, (bo hd3), trivial⟩ ?_
          refine run_new (aO #[iV (inS L p.ts (b : Int) (m : Int) (2 + p.ts.length * m) (fall (T m) (dwS L (0 + 1 : Nat) ((elB p.bs b).2.2.1, (elB p.bs b).2.2.2.1))) i)] 3) (fun b6 => sV b6 1 1) (some 69) (fun _ => by kernel_rfl) (fun b6 hb6 => ?_)
          refine run_app (t := 46) (ty := 46) (e := 3) (n := 1) (z := (iV 0)) (by kernel_rfl) (by kernel_rfl) (by kernel_rfl) rfl (by kernel_rfl) inR inR_len inR_one (some 70) 1 g m 1 cap 1 (lnT T m) ([(inS L p.ts (b : Int) (m : Int) (2 + p.ts.length * m) (fall (T m) (dwS L (0 + 1 : Nat) ((elB p.bs b).2.2.1, (elB p.bs b).2.2.2.1))) i)] : List Int) sp ⟨b6, 0, none⟩ (by first | rfl | omega | (simp; done) | (simp; omega)) (by first | rfl | omega | (simp; done) | (simp; omega)) (by kernel_rfl) (by kernel_rfl) hz6 hz7 (fun w1 k1 h1 jq uq hu => by rw [add_none, Nat.zero_add]; exact cells_of_heap (h1 (b6, aO #[iV (inS L p.ts (b : Int) (m : Int) (2 + p.ts.length * m) (fall (T m) (dwS L (0 + 1 : Nat) ((elB p.bs b).2.2.1, (elB p.bs b).2.2.2.1))) i)] 3) (List.mem_of_getElem? (i := 0) (by kernel_rfl))) jq uq hu) (by omega) hz8 (fun b7 cap7 sp7 hb7 hqb7 hmb7 hlb7 => ?_)
          refine run_auto [(71, iV ((m + 1 : Nat) : Int))] 7 [] [] [1, 3, 6, 7, 9, 10, 11, 12, 33, 34] [0, 2, 3, 4, 5] (st' := ⟨[(1, iV (b : Int)), (3, pA b1), (6, sV b7 (m + 1) cap7), (7, iV 0), (9, .func (.func 65) #[] #[pA b3, pA b2]), (10, pA b4), (11, iV (inS L p.ts (b : Int) (m : Int) (2 + p.ts.length * m) (fall (T m) (dwS L (0 + 1 : Nat) ((elB p.bs b).2.2.1, (elB p.bs b).2.2.2.1))) i)), (12, iV (dwS L (0 + 1 : Nat) ((elB p.bs b).2.2.1, (elB p.bs b).2.2.2.1))), (33, iV (p.last + 1)), (34, iV ((m + 1 : Nat) : Int))], [(b7, cO ((lnT T m ++ ([(inS L p.ts (b : Int) (m : Int) (2 + p.ts.length * m) (fall (T m) (dwS L (0 + 1 : Nat) ((elB p.bs b).2.2.1, (elB p.bs b).2.2.2.1))) i)] : List Int)).flatMap inR ++ sp7) 3), (b4, aO #[iV (elB p.bs b).1, iV (elB p.bs b).2.1, iV (elB p.bs b).2.2.1, iV (elB p.bs b).2.2.2.1, iV (elB p.bs b).2.2.2.2.1, iV (elB p.bs b).2.2.2.2.2] 54), (b3, aO #[iV ((2 + p.ts.length * m + i : Nat) : Int)] 3), (b2, aO #[.slice aa L.length lc] 44), (b1, aO #[.slice p.ba p.bs.length p.bc, iV p.near, iV p.last, .slice p.ta p.ts.length p.tc] 33)]⟩) (acc := [(iV (IntKind.i64.wrap ((m : Int) + 1)), iV ((m + 1 : Nat) : Int))]) (by kernel_rfl) (by kernel_rfl) ⟨(wr (by omega) (by omega)), trivial⟩ ?_
          have hst : T (m + 1) = inS L p.ts (b : Int) (m : Int) (2 + p.ts.length * m) (fall (T m) (dwS L (0 + 1 : Nat) ((elB p.bs b).2.2.1, (elB p.bs b).2.2.2.1))) i := by rw [← stM_pos (x := T m) (k := (dwS L (0 + 1) ((elB p.bs b).2.2.1, (elB p.bs b).2.2.2.1))) (m := m) (by omega), hie, ← hT]; rfl
          have hln := lnT_next T m
          rw [hst] at hln
          have hct : 2 + p.ts.length * (m + 1) = 2 + p.ts.length * m + i := by rw [hie, Nat.mul_succ]; omega
          have hj := hJ0 ((m + 1, some (b7, cap7, sp7))) (⟨by dsimp only; omega, by dsimp only; omega, hqb7, hmb7, by dsimp only; rw [hln]; exact hlb7, hb7⟩) (by dsimp only; omega)
          dsimp only at hj
          rw [hln, hst, hct] at hj
          exact run_round (by kernel_rfl) hj
        | true =>
          have hp3 := of_decide_eq_true hd3
          have hil : i < p.ts.length := by omega
          have htb := (hF.tcF hil).h
          rw [show elT p.n.ts i = elT p.ts i from rfl] at htb
          have hdi := dw_in L (2 + p.ts.length * m + i) (s := (elT p.ts i).2.2) htb.2.1
          have hltq : i < p.ts.length := by omega
          obtain ⟨beq, oeq, hbeq, hcq⟩ := hp.tk (by intro h; rw [h] at hltq; cases hltq)
          have hcq := hcq i hltq
          refine run_auto [(46, .bool true)] 11 [true] [] [1, 3, 6, 7, 9, 10, 11, 12, 33, 34, 13, 43, 44, 45] [0, 1, 2, 3, 4] (st' := ⟨[(1, iV (b : Int)), (3, pA b1), (6, sV g m cap), (7, iV 0), (9, .func (.func 65) #[] #[pA b3, pA b2]), (10, pA b4), (11, iV (inS L p.ts (b : Int) (m : Int) (2 + p.ts.length * m) (fall (T m) (dwS L (0 + 1 : Nat) ((elB p.bs b).2.2.1, (elB p.bs b).2.2.2.1))) i)), (12, iV (dwS L (0 + 1 : Nat) ((elB p.bs b).2.2.1, (elB p.bs b).2.2.2.1))), (33, iV (p.last + 1)), (34, iV (m : Int)), (13, iV (m : Int)), (43, .slice p.ta p.ts.length p.tc), (44, iV (p.ts.length : Int)), (45, iV (i : Int))], [(g, cO ((lnT T m).flatMap inR ++ sp) 3), (b4, aO #[iV (elB p.bs b).1, iV (elB p.bs b).2.1, iV (elB p.bs b).2.2.1, iV (elB p.bs b).2.2.2.1, iV (elB p.bs b).2.2.2.2.1, iV (elB p.bs b).2.2.2.2.2] 54), (b3, aO #[iV ((2 + p.ts.length * m + i : Nat) : Int)] 3), (b2, aO #[.slice aa L.length lc] 44), (b1, aO #[.slice p.ba p.bs.length p.bc, iV p.near, iV p.last, .slice p.ta p.ts.length p.tc] 33)]⟩) (acc := [(.bool true, .bool true), (.bool (decide ((i : Int) < (p.ts.length : Int))), .bool true)]) (by kernel_rfl) (by kernel_rfl) ⟨rfl, (bo hd3), trivial⟩ ?_
          refine run_v (Instr.indexAt 31 (.slice p.ta p.ts.length p.tc) (iV (i : Int)) >>= fun v => pure (Next.value v)) (some 47) (.pointer (some ⟨beq, oeq + i * 4, none⟩)) (by kernel_rfl) (fun w1 k1 h1 => (by rw [hbeq]; exact idx_off (e := 61) (n := 4) (by kernel_rfl) (by kernel_rfl) beq oeq p.ts.length p.tc .i64 i hltq (oeq + i * 4) (by omega) w1)) ?_
          refine run_v (Instr.loadAt 61 (.pointer (some ⟨beq, oeq + i * 4, none⟩)) >>= fun v => pure (Next.value v)) (some 48) (.agg #[iV (elT p.ts i).1, iV (elT p.ts i).2.1, iV (elT p.ts i).2.2.1, iV (elT p.ts i).2.2.2]) (by kernel_rfl) (fun w1 k1 h1 => load_in (off := 0) k1 (fun h => h) [iV (elT p.ts i).1, iV (elT p.ts i).2.1, iV (elT p.ts i).2.2.1, iV (elT p.ts i).2.2.2] (c4 hcq.1 hcq.2.1 hcq.2.2.1 hcq.2.2.2) (by kernel_rfl)) ?_
          refine run_new (aO #[iV 0, iV 0, iV 0, iV 0] 61) (fun b6 => pA b6) (some 15) (fun _ => by kernel_rfl) (fun b6 hb6 => ?_)
          refine run_auto [] 7 [] [0, 0] [1, 3, 6, 7, 9, 10, 11, 12, 33, 34, 13, 43, 44, 45, 15, 49, 51] [0, 1, 2, 3, 4, 5] (st' := ⟨[(1, iV (b : Int)), (3, pA b1), (6, sV g m cap), (7, iV 0), (9, .func (.func 65) #[] #[pA b3, pA b2]), (10, pA b4), (11, iV (inS L p.ts (b : Int) (m : Int) (2 + p.ts.length * m) (fall (T m) (dwS L (0 + 1 : Nat) ((elB p.bs b).2.2.1, (elB p.bs b).2.2.2.1))) i)), (12, iV (dwS L (0 + 1 : Nat) ((elB p.bs b).2.2.1, (elB p.bs b).2.2.2.1))), (33, iV (p.last + 1)), (34, iV (m : Int)), (13, iV (m : Int)), (43, .slice p.ta p.ts.length p.tc), (44, iV (p.ts.length : Int)), (45, iV (i : Int)), (15, pA b6), (49, .func (.func 65) #[] #[pA b3, pA b2]), (51, .agg #[iV (elT p.ts i).2.2.1, iV (elT p.ts i).2.2.2])], [(b6, aO #[iV (elT p.ts i).1, iV (elT p.ts i).2.1, iV (elT p.ts i).2.2.1, iV (elT p.ts i).2.2.2] 61), (g, cO ((lnT T m).flatMap inR ++ sp) 3), (b4, aO #[iV (elB p.bs b).1, iV (elB p.bs b).2.1, iV (elB p.bs b).2.2.1, iV (elB p.bs b).2.2.2.1, iV (elB p.bs b).2.2.2.2.1, iV (elB p.bs b).2.2.2.2.2] 54), (b3, aO #[iV ((2 + p.ts.length * m + i : Nat) : Int)] 3), (b2, aO #[.slice aa L.length lc] 44), (b1, aO #[.slice p.ba p.bs.length p.bc, iV p.near, iV p.last, .slice p.ta p.ts.length p.tc] 33)]⟩) (acc := [(pA b6, pA b6), (pA b6, pA b6)]) (by kernel_rfl) (by kernel_rfl) ⟨rfl, rfl, trivial⟩ ?_
          refine run_wr 65 #[.agg #[iV (elT p.ts i).2.2.1, iV (elT p.ts i).2.2.2], pA b3, pA b2] (some 52) (iV (dwS L (2 + p.ts.length * m + i : Nat) (elT p.ts i).2.2)) 3 b3 (aO #[iV ((2 + p.ts.length * m + i : Nat) : Int)] 3) (aO #[iV (((2 + p.ts.length * m + i : Nat) + 1 : Nat) : Int)] 3) (by kernel_rfl) (by kernel_rfl) (by kernel_rfl) (fun w1 k1 h1 => draw_any b3 b2 (2 + p.ts.length * m + i : Nat) lc (elT p.ts i).2.2.1 (elT p.ts i).2.2.2 L aa (by omega) (by omega) (by omega) (by omega) w1 (h1 (b3, aO #[iV ((2 + p.ts.length * m + i : Nat) : Int)] 3) (List.mem_of_getElem? (i := 3) (by kernel_rfl))) (h1 (b2, aO #[.slice aa L.length lc] 44) (List.mem_of_getElem? (i := 4) (by kernel_rfl))) (hU.us (k1.keeps (fun _ h => h)) hb3) hlm) ?_
          cases hd4 : ((elT p.ts i).1 == (b : Int)) with
          | false =>
            have hp4 : ¬ (elT p.ts i).1 = (b : Int) := by simpa using hd4
            refine run_auto [(56, .bool false), (66, iV ((i + 1 : Nat) : Int))] 22 [false] [0] [1, 3, 6, 7, 9, 10, 11, 12, 33, 34, 13, 43, 44, 45] [1, 2, 3, 4, 5] (st' := ⟨[(1, iV (b : Int)), (3, pA b1), (6, sV g m cap), (7, iV 0), (9, .func (.func 65) #[] #[pA b3, pA b2]), (10, pA b4), (11, iV (inS L p.ts (b : Int) (m : Int) (2 + p.ts.length * m) (fall (T m) (dwS L (0 + 1 : Nat) ((elB p.bs b).2.2.1, (elB p.bs b).2.2.2.1))) i)), (12, iV (dwS L (0 + 1 : Nat) ((elB p.bs b).2.2.1, (elB p.bs b).2.2.2.1))), (33, iV (p.last + 1)), (34, iV (m : Int)), (13, iV (m : Int)), (43, .slice p.ta p.ts.length p.tc), (44, iV (p.ts.length : Int)), (45, iV ((i + 1 : Nat) : Int))], [(g, cO ((lnT T m).flatMap inR ++ sp) 3), (b4, aO #[iV (elB p.bs b).1, iV (elB p.bs b).2.1, iV (elB p.bs b).2.2.1, iV (elB p.bs b).2.2.2.1, iV (elB p.bs b).2.2.2.2.1, iV (elB p.bs b).2.2.2.2.2] 54), (b3, aO #[iV (((2 + p.ts.length * m + i : Nat) + 1 : Nat) : Int)] 3), (b2, aO #[.slice aa L.length lc] 44), (b1, aO #[.slice p.ba p.bs.length p.bc, iV p.near, iV p.last, .slice p.ta p.ts.length p.tc] 33)]⟩) (acc := [(iV (IntKind.i64.wrap ((i : Int) + 1)), iV ((i + 1 : Nat) : Int)), (.bool false, .bool false), (.bool ((elT p.ts i).1 == (b : Int)), .bool false), (pA b6, pA b6)]) (by kernel_rfl) (by kernel_rfl) ⟨(wr (by omega) (by omega)), rfl, (bo hd4), rfl, trivial⟩ ?_
            have hst := inS_no (L := L) (ts := p.ts) (b := (b : Int)) (m := (m : Int)) (c := 2 + p.ts.length * m) (x := (fall (T m) (dwS L (0 + 1 : Nat) ((elB p.bs b).2.2.1, (elB p.bs b).2.2.2.1)))) (i := i) (by unfold isAt; rw [hd4]; rfl)
            have hj := hJ1 (i + 1) (by omega) (by omega)
            rw [hst] at hj
            exact run_round (by kernel_rfl) hj
          | true =>
            have hp4 : (elT p.ts i).1 = (b : Int) := by simpa using hd4
            cases hd5 : ((elT p.ts i).2.1 == (m : Int)) with
            | false =>
              have hp5 : ¬ (elT p.ts i).2.1 = (m : Int) := by simpa using hd5
              refine run_auto [(56, .bool true), (61, .bool false), (66, iV ((i + 1 : Nat) : Int))] 22 [false] [0, 0] [1, 3, 6, 7, 9, 10, 11, 12, 33, 34, 13, 43, 44, 45] [1, 2, 3, 4, 5] (st' := ⟨[(1, iV (b : Int)), (3, pA b1), (6, sV g m cap), (7, iV 0), (9, .func (.func 65) #[] #[pA b3, pA b2]), (10, pA b4), (11, iV (inS L p.ts (b : Int) (m : Int) (2 + p.ts.length * m) (fall (T m) (dwS L (0 + 1 : Nat) ((elB p.bs b).2.2.1, (elB p.bs b).2.2.2.1))) i)), (12, iV (dwS L (0 + 1 : Nat) ((elB p.bs b).2.2.1, (elB p.bs b).2.2.2.1))), (33, iV (p.last + 1)), (34, iV (m : Int)), (13, iV (m : Int)), (43, .slice p.ta p.ts.length p.tc), (44, iV (p.ts.length : Int)), (45, iV ((i + 1 : Nat) : Int))], [(g, cO ((lnT T m).flatMap inR ++ sp) 3), (b4, aO #[iV (elB p.bs b).1, iV (elB p.bs b).2.1, iV (elB p.bs b).2.2.1, iV (elB p.bs b).2.2.2.1, iV (elB p.bs b).2.2.2.2.1, iV (elB p.bs b).2.2.2.2.2] 54), (b3, aO #[iV (((2 + p.ts.length * m + i : Nat) + 1 : Nat) : Int)] 3), (b2, aO #[.slice aa L.length lc] 44), (b1, aO #[.slice p.ba p.bs.length p.bc, iV p.near, iV p.last, .slice p.ta p.ts.length p.tc] 33)]⟩) (acc := [(iV (IntKind.i64.wrap ((i : Int) + 1)), iV ((i + 1 : Nat) : Int)), (.bool false, .bool false), (.bool ((elT p.ts i).2.1 == (m : Int)), .bool false), (pA b6, pA b6), (.bool ((elT p.ts i).1 == (b : Int)), .bool true), (pA b6, pA b6)]) (by kernel_rfl) (by kernel_rfl) ⟨(wr (by omega) (by omega)), rfl, (bo hd5), rfl, (bo hd4), rfl, trivial⟩ ?_
              have hst := inS_no (L := L) (ts := p.ts) (b := (b : Int)) (m := (m : Int)) (c := 2 + p.ts.length * m) (x := (fall (T m) (dwS L (0 + 1 : Nat) ((elB p.bs b).2.2.1, (elB p.bs b).2.2.2.1)))) (i := i) (by unfold isAt; rw [hd4, cond_true, hd5])
              have hj := hJ1 (i + 1) (by omega) (by omega)
              rw [hst] at hj
              exact run_round (by kernel_rfl) hj
            | true =>
              have hp5 : (elT p.ts i).2.1 = (m : Int) := by simpa using hd5
              refine run_auto [(56, .bool true), (61, .bool true), (65, iV ((inS L p.ts (b : Int) (m : Int) (2 + p.ts.length * m) (fall (T m) (dwS L (0 + 1 : Nat) ((elB p.bs b).2.2.1, (elB p.bs b).2.2.2.1))) i) + (dwS L (2 + p.ts.length * m + i : Nat) (elT p.ts i).2.2))), (66, iV ((i + 1 : Nat) : Int))] 27 [true] [0, 0] [1, 3, 6, 7, 9, 10, 11, 12, 33, 34, 13, 43, 44, 45] [1, 2, 3, 4, 5] (st' := ⟨[(1, iV (b : Int)), (3, pA b1), (6, sV g m cap), (7, iV 0), (9, .func (.func 65) #[] #[pA b3, pA b2]), (10, pA b4), (11, iV ((inS L p.ts (b : Int) (m : Int) (2 + p.ts.length * m) (fall (T m) (dwS L (0 + 1 : Nat) ((elB p.bs b).2.2.1, (elB p.bs b).2.2.2.1))) i) + (dwS L (2 + p.ts.length * m + i : Nat) (elT p.ts i).2.2))), (12, iV (dwS L (0 + 1 : Nat) ((elB p.bs b).2.2.1, (elB p.bs b).2.2.2.1))), (33, iV (p.last + 1)), (34, iV (m : Int)), (13, iV (m : Int)), (43, .slice p.ta p.ts.length p.tc), (44, iV (p.ts.length : Int)), (45, iV ((i + 1 : Nat) : Int))], [(g, cO ((lnT T m).flatMap inR ++ sp) 3), (b4, aO #[iV (elB p.bs b).1, iV (elB p.bs b).2.1, iV (elB p.bs b).2.2.1, iV (elB p.bs b).2.2.2.1, iV (elB p.bs b).2.2.2.2.1, iV (elB p.bs b).2.2.2.2.2] 54), (b3, aO #[iV (((2 + p.ts.length * m + i : Nat) + 1 : Nat) : Int)] 3), (b2, aO #[.slice aa L.length lc] 44), (b1, aO #[.slice p.ba p.bs.length p.bc, iV p.near, iV p.last, .slice p.ta p.ts.length p.tc] 33)]⟩) (acc := [(iV (IntKind.i64.wrap ((i : Int) + 1)), iV ((i + 1 : Nat) : Int)), (iV (IntKind.i64.wrap ((inS L p.ts (b : Int) (m : Int) (2 + p.ts.length * m) (fall (T m) (dwS L (0 + 1 : Nat) ((elB p.bs b).2.2.1, (elB p.bs b).2.2.2.1))) i) + (dwS L (2 + p.ts.length * m + i : Nat) (elT p.ts i).2.2))), iV ((inS L p.ts (b : Int) (m : Int) (2 + p.ts.length * m) (fall (T m) (dwS L (0 + 1 : Nat) ((elB p.bs b).2.2.1, (elB p.bs b).2.2.2.1))) i) + (dwS L (2 + p.ts.length * m + i : Nat) (elT p.ts i).2.2))), (.bool true, .bool true), (.bool ((elT p.ts i).2.1 == (m : Int)), .bool true), (pA b6, pA b6), (.bool ((elT p.ts i).1 == (b : Int)), .bool true), (pA b6, pA b6)]) (by kernel_rfl) (by kernel_rfl) ⟨(wr (by omega) (by omega)), (wr (by omega) (by omega)), rfl, (bo hd5), rfl, (bo hd4), rfl, trivial⟩ ?_
              have hst := inS_yes (L := L) (ts := p.ts) (b := (b : Int)) (m := (m : Int)) (c := 2 + p.ts.length * m) (x := (fall (T m) (dwS L (0 + 1 : Nat) ((elB p.bs b).2.2.1, (elB p.bs b).2.2.2.1)))) (i := i) (by unfold isAt; rw [hd4, cond_true, hd5])
              have hj := hJ1 (i + 1) (by omega) (by omega)
              rw [hst] at hj
              exact run_round (by kernel_rfl) hj

end Go.Proofs.Ytfjfkaaflghaiaa
