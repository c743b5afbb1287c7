/-
  LAW: PairTrue: numbers drawn by remainders.
-/
import Derived.Test.YthnhcacoegmdfaaHF7
import Derived.Test.YthnhcacoegmdfaaHXO
namespace Go.Proofs.Ythnhcacoegmdfaa
open Go.RowKit Go.Proofs.Try


def elU (L : List Int) (i : Nat) : Int := (L[i]?).getD 0
/-- A row of numbers of 16 bits that came in, apart from a block. -/
def Us (w : World) (a : Option Addr) (L : List Int) (ba : Nat) : Prop := L ≠ [] → ∃ b o, a = some ⟨b, o, none⟩ ∧ b ≠ ba ∧ ∀ i, i < L.length → w.cell? ⟨b, o + i, none⟩ = some (.int .u16 (elU L i)) ∧ 0 ≤ elU L i ∧ elU L i ≤ 65535
theorem Us.keep {w w' : World} {a : Option Addr} {L : List Int} {ba : Nat} (h : Us w a L ba) (k : Kept (fun x => x = ba) w w') : Us w' a L ba := by
  intro hne
  obtain ⟨b, o, ha, hb, hc⟩ := h hne
  exact ⟨b, o, ha, hb, fun i hi => ⟨k.cell (hc i hi).1 hb, (hc i hi).2⟩⟩
theorem c1 {B : World} {b o j : Nat} {u0 : Value} (h0 : B.cell? ⟨b, o + j, none⟩ = some u0) : ∀ i u, [u0][i]? = some u → B.cell? ⟨b, o + j * 1 + i, none⟩ = some u := by
  intro i u hu
  match i, hu with
  | 0, hu => injection hu with hu; subst hu; rw [Nat.mul_one]; exact h0
  | i + 1, hu => simp at hu
/-- What is drawn, where i have been drawn. -/
def dw (L : List Int) (i : Nat) (n : Int) : Int := if L.length = 0 then ((i + 1 : Nat) : Int) % n else (elU L (((i + 1 : Nat) : Int) % (L.length : Int)).toNat + 83 * ((i + 1 : Nat) : Int)) % n
theorem dw_bd (L : List Int) (i : Nat) {n : Int} (h : 1 ≤ n) : 0 ≤ dw L i n ∧ dw L i n < n := by
  unfold dw
  split
  · exact ⟨Int.emod_nonneg _ (by omega), Int.emod_lt_of_pos _ (by omega)⟩
  · exact ⟨Int.emod_nonneg _ (by omega), Int.emod_lt_of_pos _ (by omega)⟩
set_option maxRecDepth 100000 in
set_option maxHeartbeats 4000000 in
theorem draw_any (ba bb i cap : Nat) (n : Int) (L : List Int) (aa : Option Addr) (n1 : 1 ≤ n) (n2 : n ≤ 1000) (i2 : i ≤ 100000) (w : World) (hw : w.heap[ba]? = some (.cells #[.int .i64 ((i : Int))] 3 (0, 0))) (hbb : w.heap[bb]? = some (.cells #[.slice aa L.length cap] 42 (0, 0))) (hL : Us w aa L ba) (_hlm : L.length ≤ maxLen) : Calls Try.prog 57 #[.int .i64 n, .pointer (some ⟨ba, 0, none⟩), .pointer (some ⟨bb, 0, none⟩)] w (Wr ba (.int .i64 (dw L i n)) (.cells #[.int .i64 (((i + 1 : Nat) : Int))] 3 (0, 0)) w) := by
  obtain ⟨v1, hv1⟩ : ∃ v1, ((i + 1 : Nat) : Int) % n = v1 := ⟨_, rfl⟩
  refine calls_run (fn := f57) (c := (f57.body).getD .skip) [.int .i64 n, .pointer (some ⟨ba, 0, none⟩), .pointer (some ⟨bb, 0, none⟩)] func57 (by kernel_rfl) (fun x => x = ba) [(ba, .cells #[.int .i64 (i : Int)] 3 (0, 0))] (fun p hp => by rcases List.mem_singleton.1 hp with rfl; exact ⟨hw, rfl, rfl⟩) (List.pairwise_singleton _ _) 26 (by kernel_rfl) (by simp) ?_
  refine run_auto [(6, iV ((i + 1 : Nat) : Int))] 13 [] [0, 0] [0, 1, 2, 4] [0] (st' := ⟨[(0, iV n), (1, pA ba), (2, pA bb), (4, iV 0)], [(ba, aO #[iV ((i + 1 : Nat) : Int)] 3)]⟩) (acc := [(pA ba, pA ba), (iV (IntKind.i64.wrap ((i : Int) + 1)), iV ((i + 1 : Nat) : Int)), (pA ba, pA ba)]) (by kernel_rfl) (by kernel_rfl) ⟨rfl, (wr (by omega) (by omega)), rfl, trivial⟩ ?_
  refine run_v (Instr.loadAt 42 (pA bb) >>= fun v => pure (Next.value v)) (some 7) (.slice aa L.length cap) (by kernel_rfl) (fun w1 k1 h1 => load_in (base := 0) (off := 0) k1 (fun h => by rw [h, hw] at hbb; cases hbb) [.slice aa L.length cap] (fun i u hi => by rw [Nat.zero_add]; exact cells_of_heap hbb i u hi) (by kernel_rfl)) ?_
  cases hd1 : ((L.length : Int) == 0) with
  | false =>
    have hp1 : ¬ (L.length : Int) = 0 := by simpa using hd1
    have h0 : L.length ≠ 0 := by intro h; rw [h] at hd1; cases hd1
    obtain ⟨j, hj⟩ : ∃ j : Nat, j = (((i + 1 : Nat) : Int) % (L.length : Int)).toNat := ⟨_, rfl⟩
    have hj2 : ((i + 1 : Nat) : Int) % (L.length : Int) = (j : Int) := by rw [hj]; exact (Int.toNat_of_nonneg (Int.emod_nonneg _ (by omega))).symm
    have hjl : j < L.length := by have := Int.emod_lt_of_pos ((i + 1 : Nat) : Int) (show (0 : Int) < (L.length : Int) by omega); omega
    obtain ⟨b, o, haa, hnb, hc⟩ := hL (by intro h; rw [h] at hjl; cases hjl)
    have hc := hc j hjl
    obtain ⟨v2, hv2⟩ : ∃ v2, (elU L j + 83 * ((i + 1 : Nat) : Int)) % n = v2 := ⟨_, rfl⟩
    refine run_auto [(9, .bool false)] 6 [false] [] [0, 1, 2, 4] [0] (st' := ⟨[(0, iV n), (1, pA ba), (2, pA bb), (4, iV 0)], [(ba, aO #[iV ((i + 1 : Nat) : Int)] 3)]⟩) (acc := [(.bool false, .bool false), (.bool ((L.length : Int) == 0), .bool false)]) (by kernel_rfl) (by kernel_rfl) ⟨rfl, (bo hd1), trivial⟩ ?_
    refine drawW 14 [{ val := fun _ => .slice aa L.length cap, slots := [2] },
          { val := fun _ => iV ((i + 1 : Nat) : Int), slots := [1], reads := [0] },
          { val := fun _ => .slice aa L.length cap, slots := [2] },
          { val := fun _ => iV (L.length : Int), slots := [15] },
          { val := fun _ => iV (j : Int), slots := [14, 16] },
          { val := fun _ => .pointer (some ⟨b, o + j * 1, none⟩), slots := [13, 17] },
          { val := fun _ => .int .u16 (elU L j), slots := [18] },
          { val := fun _ => iV (elU L j), slots := [19] },
          { val := fun _ => iV ((i + 1 : Nat) : Int), slots := [1], reads := [0] },
          { val := fun _ => iV (83 * ((i + 1 : Nat) : Int)), slots := [21] },
          { val := fun _ => iV ((elU L j) + (83 * ((i + 1 : Nat) : Int))), slots := [20, 22] },
          { val := fun _ => iV n, slots := [0] },
          { val := fun _ => iV v2, slots := [23, 24] },
          { val := fun _ => iV v2, slots := [25] }] [[], [], [], [2], [1, 2, 3], [0, 1, 2, 3, 4], [0, 1, 2, 3, 4, 5], [0, 1, 2, 3, 4, 5, 6], [], [8], [0, 1, 2, 3, 4, 5, 6, 7, 8, 9], [], [0, 1, 2, 3, 4, 5, 6, 7, 8, 9, 10, 11], [0, 1, 2, 3, 4, 5, 6, 7, 8, 9, 10, 11, 12]] (by kernel_rfl) (by kernel_rfl) (by kernel_rfl) (by kernel_rfl) [4] [0] (by kernel_rfl)
          ⟨⟨⟨⟨⟨⟨⟨⟨⟨⟨⟨⟨⟨⟨trivial,
          tri_vVW (fun β => .slice aa L.length cap) (fun β => by kernel_rfl) (fun β => (Instr.loadAt 42 (pA bb) >>= fun v => pure (Next.value v))) (by kernel_rfl) (fun β extra => by kernel_rfl) (fun β => by kernel_rfl) (fun β w1 k1 h1 => load_in (base := 0) (off := 0) k1 (fun h => by rw [h, hw] at hbb; cases hbb) [.slice aa L.length cap] (fun i u hi => by rw [Nat.zero_add]; exact cells_of_heap hbb i u hi) (by kernel_rfl))⟩,
          tri_quietW (fun β => []) [0] [0] (fun β => [(pA ba, pA ba)]) (by kernel_rfl) (fun β extra => by kernel_rfl) (by kernel_rfl) (fun β => ⟨rfl, trivial⟩)⟩,
          tri_vVW (fun β => .slice aa L.length cap) (fun β => by kernel_rfl) (fun β => (Instr.loadAt 42 (pA bb) >>= fun v => pure (Next.value v))) (by kernel_rfl) (fun β extra => by kernel_rfl) (fun β => by kernel_rfl) (fun β w1 k1 h1 => load_in (base := 0) (off := 0) k1 (fun h => by rw [h, hw] at hbb; cases hbb) [.slice aa L.length cap] (fun i u hi => by rw [Nat.zero_add]; exact cells_of_heap hbb i u hi) (by kernel_rfl))⟩,
          tri_quietW (fun β => []) [] [] (fun β => []) (by kernel_rfl) (fun β extra => by kernel_rfl) (by kernel_rfl) (fun β => trivial)⟩,
          tri_vVW (fun β => iV (j : Int)) (fun β => by kernel_rfl) (fun β => (binOp .rem 3 (iV ((i + 1 : Nat) : Int)) (iV (L.length : Int)) >>= fun v => pure (Next.value v))) (by kernel_rfl) (fun β extra => by kernel_rfl) (fun β => by kernel_rfl) (fun β w1 k1 h1 => (by have h := rem_run (P := Try.prog) (w := w1) (t := 3) ((i + 1 : Nat) : Int) (L.length : Int) (by omega) (by omega); rw [hj2] at h; exact h))⟩,
          tri_vVW (fun β => .pointer (some ⟨b, o + j * 1, none⟩)) (fun β => by kernel_rfl) (fun β => (Instr.indexAt 42 (.slice aa L.length cap) (iV (j : Int)) >>= fun v => pure (Next.value v))) (by kernel_rfl) (fun β extra => by kernel_rfl) (fun β => by kernel_rfl) (fun β w1 k1 h1 => (by rw [haa]; exact idx_run (e := 103) (n := 1) (by kernel_rfl) (by kernel_rfl) b o L.length cap .i64 j hjl w1))⟩,
          tri_vVW (fun β => .int .u16 (elU L j)) (fun β => by kernel_rfl) (fun β => (Instr.loadAt 103 (.pointer (some ⟨b, o + j * 1, none⟩)) >>= fun v => pure (Next.value v))) (by kernel_rfl) (fun β extra => by kernel_rfl) (fun β => by kernel_rfl) (fun β w1 k1 h1 => load_in (off := 0) k1 hnb [.int .u16 (elU L j)] (c1 hc.1) (by kernel_rfl))⟩,
          tri_quietW (fun β => [(20, iV (elU L j))]) [] [] (fun β => [(iV (IntKind.i64.wrap (elU L j)), iV (elU L j))]) (by kernel_rfl) (fun β extra => by kernel_rfl) (by kernel_rfl) (fun β => ⟨(wr (by omega) (by omega)), trivial⟩)⟩,
          tri_quietW (fun β => []) [0] [0] (fun β => [(pA ba, pA ba)]) (by kernel_rfl) (fun β extra => by kernel_rfl) (by kernel_rfl) (fun β => ⟨rfl, trivial⟩)⟩,
          tri_quietW (fun β => [(22, iV (83 * ((i + 1 : Nat) : Int)))]) [] [] (fun β => [(iV (IntKind.i64.wrap (83 * ((i + 1 : Nat) : Int))), iV (83 * ((i + 1 : Nat) : Int)))]) (by kernel_rfl) (fun β extra => by kernel_rfl) (by kernel_rfl) (fun β => ⟨(wr (by omega) (by omega)), trivial⟩)⟩,
          tri_quietW (fun β => [(23, iV ((elU L j) + (83 * ((i + 1 : Nat) : Int))))]) [] [] (fun β => [(iV (IntKind.i64.wrap ((elU L j) + (83 * ((i + 1 : Nat) : Int)))), iV ((elU L j) + (83 * ((i + 1 : Nat) : Int))))]) (by kernel_rfl) (fun β extra => by kernel_rfl) (by kernel_rfl) (fun β => ⟨(wr (by omega) (by omega)), trivial⟩)⟩,
          tri_quietW (fun β => []) [] [] (fun β => []) (by kernel_rfl) (fun β extra => by kernel_rfl) (by kernel_rfl) (fun β => trivial)⟩,
          tri_vVW (fun β => iV v2) (fun β => by kernel_rfl) (fun β => (binOp .rem 3 (iV ((elU L j) + (83 * ((i + 1 : Nat) : Int)))) (iV n) >>= fun v => pure (Next.value v))) (by kernel_rfl) (fun β extra => by kernel_rfl) (fun β => by kernel_rfl) (fun β w1 k1 h1 => (by have h := rem_run (P := Try.prog) (w := w1) (t := 3) ((elU L j) + (83 * ((i + 1 : Nat) : Int))) n (by omega) (by omega); rw [hv2] at h; exact h))⟩,
          tri_quietW (fun β => []) [] [] (fun β => []) (by kernel_rfl) (fun β extra => by kernel_rfl) (by kernel_rfl) (fun β => trivial)⟩
          (fun β => ⟨[(4, iV v2)], [(ba, aO #[iV ((i + 1 : Nat) : Int)] 3)]⟩) (fun β => by kernel_rfl) (fun β1 => ?_)
    refine run_end (fn := f57) rfl (Nat.le_refl _) (by kernel_rfl) [] [iV v2] (e := []) (by kernel_rfl) trivial (fun w1 k1 h1 => ?_)
    exact ⟨by rw [show dw L i n = v2 from by unfold dw; rw [if_neg h0, ← hj]; exact hv2]; rfl, k1, h1 (ba, _) (List.mem_of_getElem? (i := 0) rfl)⟩
  | true =>
    have hp1 : (L.length : Int) = 0 := by simpa using hd1
    have h0 : L.length = 0 := by have := hd1; simp at this; rw [this]; rfl
    refine run_auto [(9, .bool true)] 8 [true] [0] [0, 1, 2, 4, 10, 11] [0] (st' := ⟨[(0, iV n), (1, pA ba), (2, pA bb), (4, iV 0), (10, iV ((i + 1 : Nat) : Int)), (11, iV n)], [(ba, aO #[iV ((i + 1 : Nat) : Int)] 3)]⟩) (acc := [(pA ba, pA ba), (.bool true, .bool true), (.bool ((L.length : Int) == 0), .bool true)]) (by kernel_rfl) (by kernel_rfl) ⟨rfl, rfl, (bo hd1), trivial⟩ ?_
    refine run_v (binOp .rem 3 (iV ((i + 1 : Nat) : Int)) (iV n) >>= fun v => pure (Next.value v)) (some 12) (iV v1) (by kernel_rfl) (fun w1 k1 h1 => (by have h := rem_run (P := Try.prog) (w := w1) (t := 3) ((i + 1 : Nat) : Int) n (by omega) (by omega); rw [hv1] at h; exact h)) ?_
    refine run_auto [] 2 [] [] [0, 1, 2, 4] [0] (st' := ⟨[(0, iV n), (1, pA ba), (2, pA bb), (4, iV v1)], [(ba, aO #[iV ((i + 1 : Nat) : Int)] 3)]⟩) (acc := []) (by kernel_rfl) (by kernel_rfl) trivial ?_
    refine run_end (fn := f57) rfl (Nat.le_refl _) (by kernel_rfl) [] [iV v1] (e := []) (by kernel_rfl) trivial (fun w1 k1 h1 => ?_)
    exact ⟨by rw [show dw L i n = v1 from by unfold dw; rw [if_pos h0]; exact hv1]; rfl, k1, h1 (ba, _) (List.mem_of_getElem? (i := 0) rfl)⟩

end Go.Proofs.Ythnhcacoegmdfaa
