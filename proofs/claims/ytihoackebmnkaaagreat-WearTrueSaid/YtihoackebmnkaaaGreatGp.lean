/-
  LAW: WearTrue: numbers drawn by remainders.
  LAW: WearTrue: a truth that is made: numbers; draws.
-/
import Derived.Test.YtihoackebmnkaaaGreatGi
import Derived.Test.YtihoackebmnkaaaGreatGb
import Derived.Test.YtihoackebmnkaaaGreatHF6
namespace Go.Proofs.YtihoackebmnkaaaGreat
open Go.RowKit Go.Proofs.Tryz


theorem rem_run {P : Program} {w : World} {t : TypeId} (x y : Int) (hx : 0 ≤ x) (hy : 0 < y) : (binOp .rem t (.int .i64 x) (.int .i64 y) >>= fun v => pure (Next.value v)).run P w = .ok (.value (.int .i64 (x % y))) w := by
  have hy0 : ¬ y = 0 := by omega
  have h2 : x.tmod y = x % y := Int.tmod_eq_emod_of_nonneg hx
  simp [binOp, Op.intDiv, hy0, h2]
/-- Numbers of 16 bits that came in. -/
def RowU (w : World) (a : Option Addr) (L : List Int) : Prop := L ≠ [] → ∃ b o, a = some ⟨b, o, none⟩ ∧ ∀ i, i < L.length → w.cell? ⟨b, o + i, none⟩ = some (.int .u16 (elI L i)) ∧ 0 ≤ elI L i ∧ elI L i ≤ 65535
/-- So, apart from a block. -/
def Us (w : World) (a : Option Addr) (L : List Int) (ba : Nat) : Prop := L ≠ [] → ∃ b o, a = some ⟨b, o, none⟩ ∧ b ≠ ba ∧ ∀ i, i < L.length → w.cell? ⟨b, o + i, none⟩ = some (.int .u16 (elI L i)) ∧ 0 ≤ elI L i ∧ elI L i ≤ 65535
theorem RowU.us {w w1 : World} {a : Option Addr} {L : List Int} (h : RowU w a L) (k : Keeps w w1) {ba : Nat} (hb : w.heap.size ≤ ba) : Us w1 a L ba := by
  intro hne
  obtain ⟨b, o, ha, hc⟩ := h hne
  refine ⟨b, o, ha, fun e => ?_, fun i hi => ⟨k.cell (hc i hi).1, (hc i hi).2⟩⟩
  have h1 := (hc 0 (List.length_pos_iff.2 hne)).1
  subst e
  unfold World.cell? at h1
  rw [Array.getElem?_eq_none hb] at h1
  cases h1
/-- What is drawn of a span, where i have been drawn. -/
def dwS (L : List Int) (i : Nat) (s : Sp) : Int := if L.length = 0 then s.1 else s.1 + (elI L (((i + 1 : Nat) : Int) % (L.length : Int)).toNat + 29 * ((i + 1 : Nat) : Int)) % (s.2 - s.1 + 1)
theorem dw_in (L : List Int) (i : Nat) {s : Sp} (h : s.1 ≤ s.2) : s.1 ≤ dwS L i s ∧ dwS L i s ≤ s.2 := by
  unfold dwS
  split
  · exact ⟨Int.le_refl _, h⟩
  · have h1 := Int.emod_nonneg (elI L (((i + 1 : Nat) : Int) % (L.length : Int)).toNat + 29 * ((i + 1 : Nat) : Int)) (show s.2 - s.1 + 1 ≠ 0 by omega)
    have h2 := Int.emod_lt_of_pos (elI L (((i + 1 : Nat) : Int) % (L.length : Int)).toNat + 29 * ((i + 1 : Nat) : Int)) (show 0 < s.2 - s.1 + 1 by omega)
    omega
set_option maxRecDepth 100000 in
set_option maxHeartbeats 4000000 in
theorem draw_any (ba bb i cap : Nat) (lo hi : Int) (L : List Int) (aa : Option Addr) (l1 : -1000 ≤ lo) (l2 : lo ≤ hi) (l3 : hi ≤ 1000) (i2 : i ≤ 100000) (w : World) (hw : w.heap[ba]? = some (.cells #[.int .i64 ((i : Int))] 3 (0, 0))) (hbb : w.heap[bb]? = some (.cells #[.slice aa L.length cap] 43 (0, 0))) (hL : Us w aa L ba) (_hlm : L.length ≤ maxLen) : Calls Tryz.prog 88 #[.agg #[.int .i64 lo, .int .i64 hi], .pointer (some ⟨ba, 0, none⟩), .pointer (some ⟨bb, 0, none⟩)] w (Wr ba (.int .i64 (dwS L i (lo, hi))) (.cells #[.int .i64 (((i + 1 : Nat) : Int))] 3 (0, 0)) w) := by
  refine calls_run (fn := f88) (c := (f88.body).getD .skip) [.agg #[.int .i64 lo, .int .i64 hi], .pointer (some ⟨ba, 0, none⟩), .pointer (some ⟨bb, 0, none⟩)] func88 (by kernel_rfl) (fun x => x = ba) [(ba, .cells #[.int .i64 (i : Int)] 3 (0, 0))] (fun p hp => by rcases List.mem_singleton.1 hp with rfl; exact ⟨hw, rfl, rfl⟩) (List.pairwise_singleton _ _) 33 (by kernel_rfl) (by simp) ?_
  refine run_auto [] 2 [] [] [0, 1, 2] [0] (st' := ⟨[(0, .agg #[iV lo, iV hi]), (1, pA ba), (2, pA bb)], [(ba, aO #[iV (i : Int)] 3)]⟩) (acc := []) (by kernel_rfl) (by kernel_rfl) trivial ?_
  refine run_new (aO #[iV lo, iV hi] 23) (fun b1 => pA b1) (some 3) (fun _ => by kernel_rfl) (fun b1 hb1 => ?_)
  refine run_auto [(6, iV ((i + 1 : Nat) : Int))] 11 [] [1, 1] [1, 2, 3, 4] [0, 1] (st' := ⟨[(1, pA ba), (2, pA bb), (3, pA b1), (4, iV 0)], [(b1, aO #[iV lo, iV hi] 23), (ba, aO #[iV ((i + 1 : Nat) : Int)] 3)]⟩) (acc := [(pA ba, pA ba), (iV (IntKind.i64.wrap ((i : Int) + 1)), iV ((i + 1 : Nat) : Int)), (pA ba, pA ba)]) (by kernel_rfl) (by kernel_rfl) ⟨rfl, (wr (by omega) (by omega)), rfl, trivial⟩ ?_
  refine run_v (Instr.loadAt 43 (pA bb) >>= fun v => pure (Next.value v)) (some 7) (.slice aa L.length cap) (by kernel_rfl) (fun w1 k1 h1 => load_in (base := 0) (off := 0) k1 (fun h => by rw [h, hw] at hbb; cases hbb) [.slice aa L.length cap] (fun i u hi => by rw [Nat.zero_add]; exact cells_of_heap hbb i u hi) (by kernel_rfl)) ?_
  cases hd1 : ((L.length : Int) == 0) with
  | false =>
    have hp1 : ¬ (L.length : Int) = 0 := by simpa using hd1
    have h0 : L.length ≠ 0 := by intro h; rw [h] at hd1; cases hd1
    obtain ⟨j, hj⟩ : ∃ j : Nat, j = (((i + 1 : Nat) : Int) % (L.length : Int)).toNat := ⟨_, rfl⟩
    have hj2 : ((i + 1 : Nat) : Int) % (L.length : Int) = (j : Int) := by rw [hj]; exact (Int.toNat_of_nonneg (Int.emod_nonneg _ (by omega))).symm
    have hjl : j < L.length := by have := Int.emod_lt_of_pos ((i + 1 : Nat) : Int) (show (0 : Int) < (L.length : Int) by omega); omega
    obtain ⟨b, o, haa, hnb, hc⟩ := hL (by intro h; rw [h] at hjl; cases hjl)
    have hc := hc j hjl
    obtain ⟨v2, hv2⟩ : ∃ v2, (elI L j + 29 * ((i + 1 : Nat) : Int)) % (hi - lo + 1) = v2 := ⟨_, rfl⟩
    have hv2a := Int.emod_nonneg (elI L j + 29 * ((i + 1 : Nat) : Int)) (show hi - lo + 1 ≠ 0 by omega)
    have hv2b := Int.emod_lt_of_pos (elI L j + 29 * ((i + 1 : Nat) : Int)) (show 0 < hi - lo + 1 by omega)
    rw [hv2] at hv2a hv2b
    refine run_auto [(9, .bool false)] 6 [false] [] [1, 2, 3, 4] [0, 1] (st' := ⟨[(1, pA ba), (2, pA bb), (3, pA b1), (4, iV 0)], [(b1, aO #[iV lo, iV hi] 23), (ba, aO #[iV ((i + 1 : Nat) : Int)] 3)]⟩) (acc := [(.bool false, .bool false), (.bool ((L.length : Int) == 0), .bool false)]) (by kernel_rfl) (by kernel_rfl) ⟨rfl, (bo hd1), trivial⟩ ?_
    refine drawW 22 [{ val := fun _ => pA b1, slots := [3] },
          { val := fun _ => iV lo, slots := [12], reads := [0] },
          { val := fun _ => .slice aa L.length cap, slots := [2] },
          { val := fun _ => iV ((i + 1 : Nat) : Int), slots := [1], reads := [1] },
          { val := fun _ => .slice aa L.length cap, slots := [2] },
          { val := fun _ => iV (L.length : Int), slots := [16] },
          { val := fun _ => iV (j : Int), slots := [15, 17] },
          { val := fun _ => .pointer (some ⟨b, o + j, none⟩), slots := [14, 18] },
          { val := fun _ => .int .u16 (elI L j), slots := [19] },
          { val := fun _ => iV (elI L j), slots := [20] },
          { val := fun _ => iV ((i + 1 : Nat) : Int), slots := [1], reads := [1] },
          { val := fun _ => iV (29 * ((i + 1 : Nat) : Int)), slots := [22] },
          { val := fun _ => iV ((elI L j) + (29 * ((i + 1 : Nat) : Int))), slots := [21, 23] },
          { val := fun _ => .pointer (some ⟨b1, 1, none⟩), slots := [3] },
          { val := fun _ => iV hi, slots := [25], reads := [0] },
          { val := fun _ => pA b1, slots := [3] },
          { val := fun _ => iV lo, slots := [27], reads := [0] },
          { val := fun _ => iV (hi - lo), slots := [26, 28] },
          { val := fun _ => iV ((hi - lo) + 1), slots := [29] },
          { val := fun _ => iV v2, slots := [24, 30] },
          { val := fun _ => iV (lo + v2), slots := [13, 31] },
          { val := fun _ => iV (lo + v2), slots := [32] }] [[], [0], [], [], [], [4], [3, 4, 5], [2, 3, 4, 5, 6], [2, 3, 4, 5, 6, 7], [2, 3, 4, 5, 6, 7, 8], [], [10], [2, 3, 4, 5, 6, 7, 8, 9, 10, 11], [], [13], [], [15], [13, 14, 15, 16], [13, 14, 15, 16, 17], [2, 3, 4, 5, 6, 7, 8, 9, 10, 11, 12, 13, 14, 15, 16, 17, 18], [0, 1, 2, 3, 4, 5, 6, 7, 8, 9, 10, 11, 12, 13, 14, 15, 16, 17, 18, 19], [0, 1, 2, 3, 4, 5, 6, 7, 8, 9, 10, 11, 12, 13, 14, 15, 16, 17, 18, 19, 20]] (by kernel_rfl) (by kernel_rfl) (by kernel_rfl) (by kernel_rfl) [4] [1] (by kernel_rfl)
          ⟨⟨⟨⟨⟨⟨⟨⟨⟨⟨⟨⟨⟨⟨⟨⟨⟨⟨⟨⟨⟨⟨trivial,
          tri_quietW (fun β => []) [] [] (fun β => []) (by kernel_rfl) (fun β extra => by kernel_rfl) (by kernel_rfl) (fun β => trivial)⟩,
          tri_quietW (fun β => []) [0] [0] (fun β => [(pA b1, pA b1)]) (by kernel_rfl) (fun β extra => by kernel_rfl) (by kernel_rfl) (fun β => ⟨rfl, trivial⟩)⟩,
          tri_vVW (fun β => .slice aa L.length cap) (fun β => by kernel_rfl) (fun β => (Instr.loadAt 43 (pA bb) >>= fun v => pure (Next.value v))) (by kernel_rfl) (fun β extra => by kernel_rfl) (fun β => by kernel_rfl) (fun β w1 k1 h1 => load_in (base := 0) (off := 0) k1 (fun h => by rw [h, hw] at hbb; cases hbb) [.slice aa L.length cap] (fun i u hi => by rw [Nat.zero_add]; exact cells_of_heap hbb i u hi) (by kernel_rfl))⟩,
          tri_quietW (fun β => []) [0] [0] (fun β => [(pA ba, pA ba)]) (by kernel_rfl) (fun β extra => by kernel_rfl) (by kernel_rfl) (fun β => ⟨rfl, trivial⟩)⟩,
          tri_vVW (fun β => .slice aa L.length cap) (fun β => by kernel_rfl) (fun β => (Instr.loadAt 43 (pA bb) >>= fun v => pure (Next.value v))) (by kernel_rfl) (fun β extra => by kernel_rfl) (fun β => by kernel_rfl) (fun β w1 k1 h1 => load_in (base := 0) (off := 0) k1 (fun h => by rw [h, hw] at hbb; cases hbb) [.slice aa L.length cap] (fun i u hi => by rw [Nat.zero_add]; exact cells_of_heap hbb i u hi) (by kernel_rfl))⟩,
          tri_quietW (fun β => []) [] [] (fun β => []) (by kernel_rfl) (fun β extra => by kernel_rfl) (by kernel_rfl) (fun β => trivial)⟩,
          tri_vVW (fun β => iV (j : Int)) (fun β => by kernel_rfl) (fun β => (binOp .rem 3 (iV ((i + 1 : Nat) : Int)) (iV (L.length : Int)) >>= fun v => pure (Next.value v))) (by kernel_rfl) (fun β extra => by kernel_rfl) (fun β => by kernel_rfl) (fun β w1 k1 h1 => (by have h := rem_run (P := Tryz.prog) (w := w1) (t := 3) ((i + 1 : Nat) : Int) (L.length : Int) (by omega) (by omega); rw [hj2] at h; exact h))⟩,
          tri_vVW (fun β => .pointer (some ⟨b, o + j, none⟩)) (fun β => by kernel_rfl) (fun β => (Instr.indexAt 43 (.slice aa L.length cap) (iV (j : Int)) >>= fun v => pure (Next.value v))) (by kernel_rfl) (fun β extra => by kernel_rfl) (fun β => by kernel_rfl) (fun β w1 k1 h1 => (by rw [haa]; exact idx_off (e := 44) (n := 1) (by kernel_rfl) (by kernel_rfl) b o L.length cap .i64 j hjl (o + j) (by omega) w1))⟩,
          tri_vVW (fun β => .int .u16 (elI L j)) (fun β => by kernel_rfl) (fun β => (Instr.loadAt 44 (.pointer (some ⟨b, o + j, none⟩)) >>= fun v => pure (Next.value v))) (by kernel_rfl) (fun β extra => by kernel_rfl) (fun β => by kernel_rfl) (fun β w1 k1 h1 => load_in (off := 0) k1 hnb [.int .u16 (elI L j)] (c1 hc.1) (by kernel_rfl))⟩,
          tri_quietW (fun β => [(21, iV (elI L j))]) [] [] (fun β => [(iV (IntKind.i64.wrap (elI L j)), iV (elI L j))]) (by kernel_rfl) (fun β extra => by kernel_rfl) (by kernel_rfl) (fun β => ⟨(wr (by omega) (by omega)), trivial⟩)⟩,
          tri_quietW (fun β => []) [0] [0] (fun β => [(pA ba, pA ba)]) (by kernel_rfl) (fun β extra => by kernel_rfl) (by kernel_rfl) (fun β => ⟨rfl, trivial⟩)⟩,
          tri_quietW (fun β => [(23, iV (29 * ((i + 1 : Nat) : Int)))]) [] [] (fun β => [(iV (IntKind.i64.wrap (29 * ((i + 1 : Nat) : Int))), iV (29 * ((i + 1 : Nat) : Int)))]) (by kernel_rfl) (fun β extra => by kernel_rfl) (by kernel_rfl) (fun β => ⟨(wr (by omega) (by omega)), trivial⟩)⟩,
          tri_quietW (fun β => [(24, iV ((elI L j) + (29 * ((i + 1 : Nat) : Int))))]) [] [] (fun β => [(iV (IntKind.i64.wrap ((elI L j) + (29 * ((i + 1 : Nat) : Int)))), iV ((elI L j) + (29 * ((i + 1 : Nat) : Int))))]) (by kernel_rfl) (fun β extra => by kernel_rfl) (by kernel_rfl) (fun β => ⟨(wr (by omega) (by omega)), trivial⟩)⟩,
          tri_quietW (fun β => []) [] [] (fun β => []) (by kernel_rfl) (fun β extra => by kernel_rfl) (by kernel_rfl) (fun β => trivial)⟩,
          tri_quietW (fun β => []) [0] [0] (fun β => [(pA b1, pA b1)]) (by kernel_rfl) (fun β extra => by kernel_rfl) (by kernel_rfl) (fun β => ⟨rfl, trivial⟩)⟩,
          tri_quietW (fun β => []) [] [] (fun β => []) (by kernel_rfl) (fun β extra => by kernel_rfl) (by kernel_rfl) (fun β => trivial)⟩,
          tri_quietW (fun β => []) [0] [0] (fun β => [(pA b1, pA b1)]) (by kernel_rfl) (fun β extra => by kernel_rfl) (by kernel_rfl) (fun β => ⟨rfl, trivial⟩)⟩,
          tri_quietW (fun β => [(29, iV (hi - lo))]) [] [] (fun β => [(iV (IntKind.i64.wrap (hi - lo)), iV (hi - lo))]) (by kernel_rfl) (fun β extra => by kernel_rfl) (by kernel_rfl) (fun β => ⟨(wr (by omega) (by omega)), trivial⟩)⟩,
          tri_quietW (fun β => [(30, iV ((hi - lo) + 1))]) [] [] (fun β => [(iV (IntKind.i64.wrap ((hi - lo) + 1)), iV ((hi - lo) + 1))]) (by kernel_rfl) (fun β extra => by kernel_rfl) (by kernel_rfl) (fun β => ⟨(wr (by omega) (by omega)), trivial⟩)⟩,
          tri_vVW (fun β => iV v2) (fun β => by kernel_rfl) (fun β => (binOp .rem 3 (iV ((elI L j) + (29 * ((i + 1 : Nat) : Int)))) (iV ((hi - lo) + 1)) >>= fun v => pure (Next.value v))) (by kernel_rfl) (fun β extra => by kernel_rfl) (fun β => by kernel_rfl) (fun β w1 k1 h1 => (by have h := rem_run (P := Tryz.prog) (w := w1) (t := 3) ((elI L j) + (29 * ((i + 1 : Nat) : Int))) ((hi - lo) + 1) (by omega) (by omega); rw [hv2] at h; exact h))⟩,
          tri_quietW (fun β => [(32, iV (lo + v2))]) [] [] (fun β => [(iV (IntKind.i64.wrap (lo + v2)), iV (lo + v2))]) (by kernel_rfl) (fun β extra => by kernel_rfl) (by kernel_rfl) (fun β => ⟨(wr (by omega) (by omega)), trivial⟩)⟩,
          tri_quietW (fun β => []) [] [] (fun β => []) (by kernel_rfl) (fun β extra => by kernel_rfl) (by kernel_rfl) (fun β => trivial)⟩
          (fun β => ⟨[(4, iV (lo + v2))], [(ba, aO #[iV ((i + 1 : Nat) : Int)] 3)]⟩) (fun β => by kernel_rfl) (fun β2 => ?_)
    refine run_end (fn := f88) rfl (Nat.le_refl _) (by kernel_rfl) [] [iV (lo + v2)] (e := []) (by kernel_rfl) trivial (fun w1 k1 h1 => ?_)
    exact ⟨by rw [show dwS L i (lo, hi) = (lo + v2) from by unfold dwS; rw [if_neg h0, ← hj]; dsimp only; rw [hv2]]; rfl, k1, h1 (ba, _) (List.mem_of_getElem? (i := 0) rfl)⟩
  | true =>
    have hp1 : (L.length : Int) = 0 := by simpa using hd1
    have h0 : L.length = 0 := by have := hd1; simp at this; rw [this]; rfl
    refine run_auto [(9, .bool true)] 10 [true] [0] [1, 2, 3, 4] [0, 1] (st' := ⟨[(1, pA ba), (2, pA bb), (3, pA b1), (4, iV lo)], [(b1, aO #[iV lo, iV hi] 23), (ba, aO #[iV ((i + 1 : Nat) : Int)] 3)]⟩) (acc := [(pA b1, pA b1), (.bool true, .bool true), (.bool ((L.length : Int) == 0), .bool true)]) (by kernel_rfl) (by kernel_rfl) ⟨rfl, rfl, (bo hd1), trivial⟩ ?_
    refine run_end (fn := f88) rfl (Nat.le_refl _) (by kernel_rfl) [] [iV lo] (e := []) (by kernel_rfl) trivial (fun w1 k1 h1 => ?_)
    exact ⟨by rw [show dwS L i (lo, hi) = lo from by unfold dwS; rw [if_pos h0]]; rfl, k1, h1 (ba, _) (List.mem_of_getElem? (i := 1) rfl)⟩

end Go.Proofs.YtihoackebmnkaaaGreat

namespace Go.Proofs.YtihoackebmnkaaaGreat
open Go.RowKit Go.Proofs.Tryz


/-- What is left of n after t uses, where i have been drawn ahead of them. -/
def usD (L : List Int) (u : Sp) (i : Nat) (n : Int) : Nat → Int
  | 0 => n
  | t + 1 => usD L u i n t - dwS L (i + t) u
theorem usD_bd (L : List Int) {u : Sp} (h : u.1 ≤ u.2) (i : Nat) (n : Int) : ∀ t : Nat, (t : Int) * u.1 ≤ n - usD L u i n t ∧ n - usD L u i n t ≤ (t : Int) * u.2
  | 0 => by unfold usD; simp
  | t + 1 => by
    have h1 := usD_bd L h i n t
    have h2 := dw_in L (i + t) h
    unfold usD
    rw [Int.natCast_succ, Int.add_mul, Int.add_mul]
    omega
def stT (L : List Int) (u : Sp) (e : Ev) (s : Nat × Int) : Nat × Int := if e.1 = 0 then (s.1 + e.2.1.toNat, usD L u s.1 s.2 e.2.1.toNat) else if e.1 = 2 then (s.1 + 1, s.2 - dwS L s.1 e.2.2) else s
/-- How many have been drawn, and how long the block truly is, after j events. -/
def trT (L : List Int) (u l : Sp) (es : List Ev) : Nat → Nat × Int
  | 0 => (1, dwS L 0 l)
  | j + 1 => stT L u (elE es j) (trT L u l es j)
/-- A reading that is right of n, as wide as it was. -/
def xeE (e : Ev) (n : Int) : Ev := if e.1 = 1 then (1, 0, n - min (e.2.2.2 - e.2.2.1) 30 / 2, n + min (e.2.2.2 - e.2.2.1) 30 - min (e.2.2.2 - e.2.2.1) 30 / 2) else e
def xsT (es : List Ev) (T : Nat → Nat × Int) (j : Nat) : List Ev := (List.range es.length).map fun i => if i < j then xeE (elE es i) (T i).2 else elE es i
def lnT (T : Nat → Nat × Int) (j : Nat) : List Int := (List.range (j + 1)).map fun i => (T i).2
@[simp] theorem xsT_len (es : List Ev) (T : Nat → Nat × Int) (j : Nat) : (xsT es T j).length = es.length := by unfold xsT; rw [List.length_map, List.length_range]
theorem xsT_get (es : List Ev) (T : Nat → Nat × Int) (j i : Nat) (h : i < (xsT es T j).length) : (xsT es T j)[i] = if i < j then xeE (elE es i) (T i).2 else elE es i := by simp [xsT]
theorem xsT_zero (es : List Ev) (T : Nat → Nat × Int) : xsT es T 0 = es := by
  apply List.ext_getElem
  · simp
  · intro i h1 h2
    rw [xsT_get, if_neg (Nat.not_lt_zero i), elE_at h2]
theorem xsT_at {es : List Ev} {T : Nat → Nat × Int} {j i : Nat} (h : i < es.length) : elE (xsT es T j) i = if i < j then xeE (elE es i) (T i).2 else elE es i := by
  rw [elE_at (by simpa using h), xsT_get]
theorem xsT_set {es : List Ev} {T : Nat → Nat × Int} {j : Nat} : xsT es T (j + 1) = (xsT es T j).set j (xeE (elE es j) (T j).2) := by
  apply List.ext_getElem
  · simp
  · intro i h1 h2
    rw [List.getElem_set, xsT_get, xsT_get]
    by_cases e : j = i
    · subst e
      rw [if_pos (Nat.lt_succ_self _), if_pos rfl]
    · rw [if_neg e]
      by_cases h3 : i < j
      · rw [if_pos h3, if_pos (by omega)]
      · rw [if_neg h3, if_neg (by omega)]
theorem xsT_not {es : List Ev} {T : Nat → Nat × Int} {j : Nat} (hk : (elE es j).1 ≠ 1) : xsT es T (j + 1) = xsT es T j := by
  apply List.ext_getElem
  · simp
  · intro i h1 h2
    rw [xsT_get, xsT_get]
    by_cases e : i = j
    · subst e
      rw [if_pos (Nat.lt_succ_self _), if_neg (Nat.lt_irrefl _)]
      unfold xeE
      rw [if_neg hk]
    · by_cases h3 : i < j
      · rw [if_pos h3, if_pos (by omega)]
      · rw [if_neg h3, if_neg (by omega)]
@[simp] theorem lnT_len (T : Nat → Nat × Int) (j : Nat) : (lnT T j).length = j + 1 := by unfold lnT; rw [List.length_map, List.length_range]
theorem lnT_next (T : Nat → Nat × Int) (j : Nat) : lnT T (j + 1) = lnT T j ++ [(T (j + 1)).2] := by unfold lnT; rw [List.range_succ (n := j + 1), List.map_append]; rfl
theorem lnT_at {T : Nat → Nat × Int} {j i : Nat} (h : i ≤ j) : elI (lnT T j) i = (T i).2 := by
  unfold elI lnT
  rw [List.getElem?_map, List.getElem?_range (by omega)]
  rfl
theorem st_bd (L : List Int) {u : Sp} {e : Ev} (hu : 0 ≤ u.1 ∧ u.1 ≤ u.2 ∧ u.2 ≤ 3) (hv : vEv e = true) (s : Nat × Int) : (stT L u e s).1 ≤ s.1 + 20 ∧ s.2 - 60 ≤ (stT L u e s).2 ∧ (stT L u e s).2 ≤ s.2 := by
  unfold stT
  rcases kind_of hv with h | h | h
  · rw [if_pos h]
    have hn : 0 ≤ e.2.1 ∧ e.2.1 ≤ 20 := by
      have hv := hv
      unfold vEv at hv
      rw [show (e.1 == 0) = true by simpa using h] at hv
      exact of_decide_eq_true hv
    have h1 := usD_bd L hu.2.1 s.1 s.2 e.2.1.toNat
    have h2 : 0 ≤ (e.2.1.toNat : Int) * u.1 := Int.mul_nonneg (by omega) hu.1
    have h3 : (e.2.1.toNat : Int) * u.2 ≤ 20 * 3 := Int.mul_le_mul (by omega) hu.2.2 (by omega) (by omega)
    dsimp only
    omega
  · rw [if_neg (by omega), if_neg (by omega)]
    omega
  · rw [if_neg (by omega), if_pos h]
    have h1 := lap_bd hv h
    have h2 := dw_in L s.1 h1.2.1
    dsimp only
    omega
theorem tr_bd (L : List Int) {u l : Sp} {es : List Ev} (hu : 0 ≤ u.1 ∧ u.1 ≤ u.2 ∧ u.2 ≤ 3) (hl : 0 ≤ l.1 ∧ l.1 ≤ l.2 ∧ l.2 ≤ 300) (hv : ∀ e ∈ es, vEv e = true) : ∀ j, j ≤ es.length → (trT L u l es j).1 ≤ 1 + 20 * j ∧ -(60 * (j : Int)) ≤ (trT L u l es j).2 ∧ (trT L u l es j).2 ≤ 300
  | 0, _ => by
    have := dw_in L 0 hl.2.1
    unfold trT
    dsimp only
    omega
  | j + 1, h => by
    have h1 := tr_bd L hu hl hv j (by omega)
    have h2 := st_bd L hu (hv _ (elE_mem (show j < es.length by omega))) (trT L u l es j)
    unfold trT
    omega
theorem xe_ok {e : Ev} {n : Int} (hv : vEv e = true) (h1 : -500 ≤ n) (h2 : n ≤ 500) : vEv (xeE e n) = true := by
  unfold xeE
  split
  · rename_i h
    have := read_bd hv (by omega) (by omega)
    exact decide_eq_true (by dsimp only; omega)
  · exact hv
theorem xe_kind (e : Ev) (n : Int) : (xeE e n).1 = e.1 := by
  unfold xeE
  split
  · rename_i h; exact h.symm
  · rfl
theorem st_rst (L : List Int) {u : Sp} {e : Ev} (hu : u.1 ≤ u.2) (hv : vEv e = true) (s : Nat × Int) : Rst u (xeE e s.2) s.2 (stT L u e s).2 := by
  unfold Rst stT
  rw [xe_kind]
  rcases kind_of hv with h | h | h
  · rw [if_pos h, if_pos h]
    have e1 : xeE e s.2 = e := by unfold xeE; rw [if_neg (by omega)]
    rw [e1]
    have hn : 0 ≤ e.2.1 := by
      have hv := hv
      unfold vEv at hv
      rw [show (e.1 == 0) = true by simpa using h] at hv
      exact (of_decide_eq_true hv).1
    have h1 := usD_bd L hu s.1 s.2 e.2.1.toNat
    rw [Int.toNat_of_nonneg hn] at h1
    exact h1
  · rw [if_neg (by omega), if_neg (by omega), if_neg (by omega), if_neg (by omega)]
    refine ⟨rfl, ?_⟩
    have := read_bd hv (by omega) (by omega)
    unfold xeE inP
    rw [if_pos h]
    dsimp only
    omega
  · rw [if_neg (by omega), if_pos h, if_neg (by omega), if_pos h]
    have e1 : xeE e s.2 = e := by unfold xeE; rw [if_neg (by omega)]
    rw [e1]
    have h1 := lap_bd hv h
    have h2 := dw_in L s.1 h1.2.1
    unfold inP
    dsimp only
    omega
/-- Lengths that a block truly has. -/
structure TruW (w : Wn) (t : Nat → Int) : Prop where
  first : inP (t 0) w.l
  step : ∀ i, i < w.es.length → Rst w.u (elE w.es i) (t i) (t (i + 1))
theorem TruW.pre {w : Wn} {t : Nat → Int} (h : TruW w t) : ∀ j, j ≤ w.es.length → Rch w.u (w.es.take j) (t 0) (t j)
  | 0, _ => rfl
  | j + 1, hj => by
    rw [List.take_succ_eq_append_getElem (show j < w.es.length by omega), ← elE_at (show j < w.es.length by omega)]
    exact Rch_append.2 ⟨t j, h.pre j (by omega), t (j + 1), h.step j (by omega), rfl⟩
theorem TruW.post {w : Wn} {t : Nat → Int} (h : TruW w t) : ∀ d j, j + d = w.es.length → Rch w.u (w.es.drop j) (t j) (t w.es.length)
  | 0, j, hj => by
    rw [List.drop_eq_nil_of_le (by omega), show j = w.es.length by omega]
    rfl
  | d + 1, j, hj => by
    rw [List.drop_eq_getElem_cons (show j < w.es.length by omega), ← elE_at (show j < w.es.length by omega)]
    exact ⟨t (j + 1), h.step j (by omega), h.post d (j + 1) (by omega)⟩
theorem TruW.at {w : Wn} {t : Nat → Int} (h : TruW w t) {j : Nat} (hj : j ≤ w.es.length) : w.At j (t j) := ⟨⟨t 0, h.first, h.pre j hj⟩, t w.es.length, h.post (w.es.length - j) j (by omega)⟩
theorem TruW.way {w : Wn} {t : Nat → Int} (h : TruW w t) : w.Way (t 0) (t w.es.length) := ⟨h.first, by have := h.post w.es.length 0 (by omega); rwa [List.drop_zero] at this⟩
theorem TruW.can {w : Wn} {t : Nat → Int} (h : TruW w t) (hF : w.Fine) : w.can = true := hF.ok_.can_iff.2 ⟨_, _, h.way⟩
/-- The block that is made. -/
def trB (p : Wb) (L : List Int) (a : Option Addr) (c : Nat) : Wb := ⟨p.ll, p.lh, p.ul, p.uh, a, c, xsT p.es (trT L (p.ul, p.uh) (p.ll, p.lh) p.es) p.es.length⟩
theorem trB_len (p : Wb) (L : List Int) (a : Option Addr) (c : Nat) : (trB p L a c).es.length = p.es.length := xsT_len _ _ _
theorem trB_at {p : Wb} {L : List Int} {a : Option Addr} {c i : Nat} (h : i < p.es.length) : elE (trB p L a c).es i = xeE (elE p.es i) (trT L (p.ul, p.uh) (p.ll, p.lh) p.es i).2 := by
  unfold trB
  dsimp only
  rw [xsT_at h, if_pos h]
theorem trB_fine {p : Wb} (h : p.n.Fine) (L : List Int) (a : Option Addr) (c : Nat) : (trB p L a c).n.Fine := by
  refine ⟨h.l, h.lw, h.u, by show (trB p L a c).es.length ≤ 8; rw [trB_len]; exact h.n8, fun e he => ?_⟩
  obtain ⟨i, hi, rfl⟩ := List.getElem_of_mem he
  have hi2 : i < p.es.length := by
    have h2 : i < (trB p L a c).es.length := hi
    rwa [trB_len] at h2
  have h1 := trB_at (L := L) (a := a) (c := c) hi2
  rw [← elE_at hi]
  show vEv (elE (trB p L a c).es i) = true
  rw [h1]
  have hb := tr_bd L h.u h.l h.ev i (by show i ≤ p.es.length; omega)
  have h8 : p.es.length ≤ 8 := h.n8
  have hb : (trT L (p.ul, p.uh) (p.ll, p.lh) p.es i).1 ≤ 1 + 20 * i ∧ -(60 * (i : Int)) ≤ (trT L (p.ul, p.uh) (p.ll, p.lh) p.es i).2 ∧ (trT L (p.ul, p.uh) (p.ll, p.lh) p.es i).2 ≤ 300 := hb
  exact xe_ok (h.ev _ (elE_mem (show i < p.n.es.length from hi2))) (by omega) (by omega)
theorem trB_tru {p : Wb} (h : p.n.Fine) (L : List Int) (a : Option Addr) (c : Nat) : TruW (trB p L a c).n fun i => (trT L (p.ul, p.uh) (p.ll, p.lh) p.es i).2 := by
  refine ⟨dw_in L 0 h.l.2.1, fun i hi => ?_⟩
  have hi2 : i < p.es.length := by
    have h2 : i < (trB p L a c).es.length := hi
    rwa [trB_len] at h2
  show Rst (p.ul, p.uh) (elE (trB p L a c).es i) _ _
  rw [trB_at hi2]
  exact st_rst L h.u.2.1 (h.ev _ (elE_mem (show i < p.n.es.length from hi2))) _
set_option maxRecDepth 100000 in
theorem draws_any (L : List Int) (aa : Option Addr) (lc : Nat) (w : World)  : Calls Tryz.prog 31 #[.slice aa L.length lc] w (NwL (α := Nat × Nat) (fun x => .func (.func 88) #[] #[.pointer (some ⟨(x.1), 0, none⟩), .pointer (some ⟨(x.2), 0, none⟩)]) (fun x => [((x.1), .cells #[.int .i64 0] 3 (0, 0)), ((x.2), .cells #[.slice aa L.length lc] 43 (0, 0))]) (fun _ => True) w) := by
  refine calls_run (fn := f31) (c := (f31.body).getD .skip) [.slice aa L.length lc] func31 (by kernel_rfl) (fun _ => False) [] (fun _ h => by cases h) (List.Pairwise.nil) 5 (by kernel_rfl) (by simp) ?_
  refine run_auto [] 2 [] [] [0] [] (st' := ⟨[(0, .slice aa L.length lc)], []⟩) (acc := []) (by kernel_rfl) (by kernel_rfl) trivial ?_
  refine run_new (aO #[.slice aa L.length lc] 43) (fun b1 => pA b1) (some 1) (fun _ => by kernel_rfl) (fun b1 hb1 => ?_)
  refine run_auto [] 4 [] [] [1, 2] [0] (st' := ⟨[(1, pA b1), (2, .nilFunc)], [(b1, aO #[.slice aa L.length lc] 43)]⟩) (acc := []) (by kernel_rfl) (by kernel_rfl) trivial ?_
  refine run_new (aO #[iV 0] 3) (fun b2 => pA b2) (some 3) (fun _ => by kernel_rfl) (fun b2 hb2 => ?_)
  refine run_auto [] 7 [] [0] [2] [0, 1] (st' := ⟨[(2, .func (.func 88) #[] #[pA b2, pA b1])], [(b2, aO #[iV 0] 3), (b1, aO #[.slice aa L.length lc] 43)]⟩) (acc := [(pA b2, pA b2)]) (by kernel_rfl) (by kernel_rfl) ⟨rfl, trivial⟩ ?_
  refine run_end (fn := f31) rfl (Nat.le_refl _) (by kernel_rfl) [] [.func (.func 88) #[] #[pA b2, pA b1]] (e := []) (by kernel_rfl) trivial (fun w1 k1 h1 => ?_)
  refine ⟨(b2, b1), trivial, rfl, k1.keeps (fun _ h => h), fun p hp => ?_, List.pairwise_cons.2 ⟨fun p hp => ?_, List.pairwise_singleton _ _⟩⟩
  · simp only [List.mem_cons, List.not_mem_nil, or_false] at hp
    rcases hp with rfl | rfl
    · exact ⟨h1 (b2, _) (List.mem_of_getElem? (i := 0) rfl), hb2⟩
    · exact ⟨h1 (b1, _) (List.mem_of_getElem? (i := 1) rfl), hb1⟩
  · simp only [List.mem_cons, List.not_mem_nil, or_false] at hp
    subst hp
    intro hh
    have q1 := h1 (b2, _) (List.mem_of_getElem? (i := 0) rfl)
    have q2 := h1 (b1, _) (List.mem_of_getElem? (i := 1) rfl)
    dsimp only at hh q1 q2
    rw [hh] at q1
    rw [q1] at q2
    simp at q2

end Go.Proofs.YtihoackebmnkaaaGreat
