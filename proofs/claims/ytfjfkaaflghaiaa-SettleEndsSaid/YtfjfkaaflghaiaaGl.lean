/-
  LAW: exact: a settle in which all of a block, and all touches, are known.
  LAW: SettleEnds: numbers.
-/
import Derived.Test.YtfjfkaaflghaiaaGg
import Derived.Test.YtfjfkaaflghaiaaHYB
import Derived.Test.YtfjfkaaflghaiaaGb
import Derived.Test.YtfjfkaaflghaiaaGk
namespace Go.Proofs.Ytfjfkaaflghaiaa
open Go.RowKit Go.Proofs.Try
attribute [local irreducible] Run wpK


def endV (hi : Bool) (s : Sp) : Int := bif hi then s.2 else s.1
/-- A block of which all is known; a touch. -/
def exB (hi : Bool) (k : Int) (b : Bk) : Bk := (endV hi (b.1, b.2.1), endV hi (b.1, b.2.1), k, k, b.2.2.2.2)
def exTc (hi : Bool) (t : Tc) : Tc := (t.1, t.2.1, endV hi t.2.2, endV hi t.2.2)
def exT (hi : Bool) (L : List Tc) (i : Nat) : List Tc := (L.take i).map (exTc hi)
theorem exT_len (hi : Bool) (L : List Tc) {i : Nat} (h : i ≤ L.length) : (exT hi L i).length = i := by unfold exT; rw [List.length_map, List.length_take]; omega
theorem exT_next (hi : Bool) {L : List Tc} {i : Nat} (h : i < L.length) : exT hi L (i + 1) = exT hi L i ++ [exTc hi (elT L i)] := by
  unfold exT
  rw [elT_at h, List.take_succ_eq_append_getElem h, List.map_append]
  rfl
theorem exT_all (hi : Bool) (L : List Tc) : exT hi L L.length = L.map (exTc hi) := by unfold exT; rw [List.take_length]
theorem elB_set_self {L : List Bk} {b : Nat} {x : Bk} (h : b < L.length) : elB (L.set b x) b = x := by
  unfold elB
  rw [List.getElem?_set_self (by simpa using h)]
  rfl
theorem ex_set {L : List Bk} {b : Nat} (h : b < L.length) (hi : Bool) (k : Int) : (L.set b (endV hi ((elB L b).1, (elB L b).2.1), endV hi ((elB L b).1, (elB L b).2.1), (elB L b).2.2)).set b ((elB (L.set b (endV hi ((elB L b).1, (elB L b).2.1), endV hi ((elB L b).1, (elB L b).2.1), (elB L b).2.2)) b).1, (elB (L.set b (endV hi ((elB L b).1, (elB L b).2.1), endV hi ((elB L b).1, (elB L b).2.1), (elB L b).2.2)) b).2.1, k, k, (elB (L.set b (endV hi ((elB L b).1, (elB L b).2.1), endV hi ((elB L b).1, (elB L b).2.1), (elB L b).2.2)) b).2.2.2.2) = L.set b (exB hi k (elB L b)) := by
  rw [elB_set_self h, List.set_set]
  rfl
set_option maxRecDepth 100000 in
theorem end_any (x y : Int) (hi : Bool) (c : Nat) (w : World) (hc : w.heap[c]? = some (.cells #[.bool hi] 4 (0, 0))) : Calls Try.prog 69 #[.agg #[.int .i64 x, .int .i64 y], .pointer (some ⟨c, 0, none⟩)] w (Ret (.agg #[.int .i64 (endV hi (x, y)), .int .i64 (endV hi (x, y))]) w) := by
  refine calls_run (fn := f69) (c := (f69.body).getD .skip) [.agg #[.int .i64 x, .int .i64 y], .pointer (some ⟨c, 0, none⟩)] func69 (by kernel_rfl) (fun _ => False) [] (fun _ h => by cases h) (List.Pairwise.nil) 15 (by kernel_rfl) (by simp) ?_
  refine run_auto [] 2 [] [] [0, 1] [] (st' := ⟨[(0, .agg #[iV x, iV y]), (1, pA c)], []⟩) (acc := []) (by kernel_rfl) (by kernel_rfl) trivial ?_
  refine run_new (aO #[iV x, iV y] 23) (fun b1 => pA b1) (some 2) (fun _ => by kernel_rfl) (fun b1 hb1 => ?_)
  refine run_new (aO #[iV 0, iV 0] 23) (fun b2 => pA b2) (some 3) (fun _ => by kernel_rfl) (fun b2 hb2 => ?_)
  refine run_auto [] 4 [] [] [1, 2, 3] [0, 1] (st' := ⟨[(1, pA c), (2, pA b1), (3, pA b2)], [(b2, aO #[iV 0, iV 0] 23), (b1, aO #[iV x, iV y] 23)]⟩) (acc := []) (by kernel_rfl) (by kernel_rfl) trivial ?_
  refine run_v (Instr.loadAt 4 (pA c) >>= fun v => pure (Next.value v)) (some 4) (.bool hi) (by kernel_rfl) (fun w1 k1 h1 => load_in (base := 0) (off := 0) k1 (fun h => h) [.bool hi] (fun i u hi => by rw [Nat.zero_add]; exact cells_of_heap hc i u hi) (by kernel_rfl)) ?_
  cases hd1 : hi with
  | false =>
    refine run_auto [] 9 [false] [1, 1] [3, 11, 13] [0] (st' := ⟨[(3, pA b2), (11, iV x), (13, iV x)], [(b2, aO #[iV 0, iV 0] 23)]⟩) (acc := [(pA b1, pA b1), (pA b1, pA b1), (.bool false, .bool false)]) (by kernel_rfl) (by kernel_rfl) ⟨rfl, rfl, rfl, trivial⟩ ?_
    refine run_ret1 10 #[iV x, iV x] (some 14) (.agg #[iV x, iV x]) (by kernel_rfl) (fun w1 k1 h1 => span_any x x w1) ?_
    refine run_auto [] 2 [] [0] [3] [0] (st' := ⟨[(3, pA b2)], [(b2, aO #[iV x, iV x] 23)]⟩) (acc := [(pA b2, pA b2)]) (by kernel_rfl) (by kernel_rfl) ⟨rfl, trivial⟩ ?_
    refine run_end (fn := f69) rfl (Nat.le_refl _) (by kernel_rfl) [0] [.agg #[iV x, iV x]] (e := [(pA b2, pA b2)]) (by kernel_rfl) ⟨rfl, trivial⟩ (fun w1 k1 h1 => ?_)
    exact ⟨rfl, k1.keeps (fun _ h => h)⟩
  | true =>
    refine run_auto [] 8 [true] [1, 1] [2, 3, 6, 8] [0, 1] (st' := ⟨[(2, pA b1), (3, pA b2), (6, iV y), (8, iV y)], [(b2, aO #[iV 0, iV 0] 23), (b1, aO #[iV x, iV y] 23)]⟩) (acc := [(pA b1, pA b1), (pA b1, pA b1), (.bool true, .bool true)]) (by kernel_rfl) (by kernel_rfl) ⟨rfl, rfl, rfl, trivial⟩ ?_
    refine run_ret1 10 #[iV y, iV y] (some 9) (.agg #[iV y, iV y]) (by kernel_rfl) (fun w1 k1 h1 => span_any y y w1) ?_
    refine run_auto [] 2 [] [0] [2, 3] [0, 1] (st' := ⟨[(2, pA b1), (3, pA b2)], [(b2, aO #[iV y, iV y] 23), (b1, aO #[iV x, iV y] 23)]⟩) (acc := [(pA b2, pA b2)]) (by kernel_rfl) (by kernel_rfl) ⟨rfl, trivial⟩ ?_
    refine run_end (fn := f69) rfl (Nat.le_refl _) (by kernel_rfl) [0] [.agg #[iV y, iV y]] (e := [(pA b2, pA b2)]) (by kernel_rfl) ⟨rfl, trivial⟩ (fun w1 k1 h1 => ?_)
    exact ⟨rfl, k1.keeps (fun _ h => h)⟩


theorem pairwise_pick2 {α : Type} {R : α → α → Prop} {l : List α} (h : l.Pairwise R) {i j : Nat} {x y : α} (hij : i < j) (hx : l[i]? = some x) (hy : l[j]? = some y) : R x y := by
  obtain ⟨h1, rfl⟩ := List.getElem?_eq_some_iff.1 hx
  obtain ⟨h2, rfl⟩ := List.getElem?_eq_some_iff.1 hy
  exact List.pairwise_iff_getElem.1 h i j h1 h2 hij
set_option maxRecDepth 100000 in
set_option maxHeartbeats 4000000 in
theorem exact0_any (p : Sb) (b : Nat) (k : Int) (hi : Bool) (bq0 oq0 : Nat) (w : World) (hp : p.In w) (hea : p.ba = some ⟨bq0, oq0, none⟩) (hbl : b < p.bs.length) (h4 : p.bs.length ≤ 4) (hn0 : p.ts.length = 0) : Calls Try.prog 27 #[.agg #[.slice (some ⟨bq0, oq0, none⟩) p.bs.length p.bc, .int .i64 p.near, .int .i64 p.last, .slice p.ta p.ts.length p.tc], .int .i64 (b : Int), .int .i64 k, .bool hi] w (NwL (α := Nat × Nat × List Value) (fun x => .agg #[.slice (some ⟨(x.1), 0, none⟩) ((p.bs.set b (exB hi k (elB p.bs b))).length) (x.2.1), .int .i64 p.near, .int .i64 p.last, .slice none 0 0]) (fun x => [((x.1), .cells ((p.bs.set b (exB hi k (elB p.bs b))).flatMap bkR ++ (x.2.2)).toArray 54 (0, 0))]) (fun _ => True) w) := by
  obtain ⟨bz, oz, hbz, hcz⟩ := hp.bk (by intro h; rw [h] at hbl; cases hbl)
  have hcq := hcz b hbl
  rw [hea] at hbz
  injection hbz with hbz
  injection hbz with e1 e2
  subst e1; subst e2
  have hlt0 := hp.lt
  have hlb := hp.lb
  simp only [maxLen] at hlt0 hlb
  have hce : ∀ w1, Kept (fun _ => False) w w1 → ∀ j u, (p.bs.flatMap bkR)[j]? = some u → w1.cell? ((⟨bq0, oq0, none⟩ : Addr).add j) = some u := fun w1 k1 j u hu => by
      obtain ⟨b2, o2, h1, h2⟩ := (hp.bk.keep (k1.keeps (fun _ h => h))).flat (by intro h; rw [h] at hbl; cases hbl)
      rw [hea] at h1
      injection h1 with h1
      injection h1 with e1 e2
      subst e1; subst e2
      exact h2 j u hu
  refine calls_run (fn := f27) (c := (f27.body).getD .skip) [.agg #[.slice (some ⟨bq0, oq0, none⟩) p.bs.length p.bc, .int .i64 p.near, .int .i64 p.last, .slice p.ta p.ts.length p.tc], .int .i64 (b : Int), .int .i64 k, .bool hi] func27 (by kernel_rfl) (fun _ => False) [] (fun _ h => by cases h) (List.Pairwise.nil) 63 (by kernel_rfl) (by simp) ?_
  refine run_auto [] 2 [] [] [0, 1, 2, 3] [] (st' := ⟨[(0, .agg #[.slice (some ⟨bq0, oq0, none⟩) p.bs.length p.bc, iV p.near, iV p.last, .slice p.ta p.ts.length p.tc]), (1, iV (b : Int)), (2, iV k), (3, .bool hi)], []⟩) (acc := []) (by kernel_rfl) (by kernel_rfl) trivial ?_
  refine run_new (aO #[.slice (some ⟨bq0, oq0, none⟩) p.bs.length p.bc, iV p.near, iV p.last, .slice p.ta p.ts.length p.tc] 33) (fun b1 => pA b1) (some 4) (fun _ => by kernel_rfl) (fun b1 hb1 => ?_)
  refine run_new (aO #[.bool hi] 4) (fun b2 => pA b2) (some 7) (fun _ => by kernel_rfl) (fun b2 hb2 => ?_)
  refine run_new (aO #[.slice none 0 0, iV 0, iV 0, .slice none 0 0] 33) (fun b3 => pA b3) (some 8) (fun _ => by kernel_rfl) (fun b3 hb3 => ?_)
  refine run_auto [] 7 [] [] [1, 2, 4, 8, 9] [0, 1, 2] (st' := ⟨[(1, iV (b : Int)), (2, iV k), (4, pA b1), (8, pA b3), (9, .func (.func 69) #[] #[pA b2])], [(b3, aO #[.slice none 0 0, iV 0, iV 0, .slice none 0 0] 33), (b2, aO #[.bool hi] 4), (b1, aO #[.slice (some ⟨bq0, oq0, none⟩) p.bs.length p.bc, iV p.near, iV p.last, .slice p.ta p.ts.length p.tc] 33)]⟩) (acc := []) (by kernel_rfl) (by kernel_rfl) trivial ?_
  refine drawW 6 [{ val := fun _ => pA b1, slots := [4] },
      { val := fun _ => .slice (some ⟨bq0, oq0, none⟩) p.bs.length p.bc, slots := [15], reads := [2] },
      { val := fun _ => .pointer (some ⟨b1, 3, none⟩), slots := [4] },
      { val := fun _ => .slice p.ta p.ts.length p.tc, slots := [17], reads := [2] },
      { val := fun _ => .slice (some ⟨bq0, oq0, none⟩) p.bs.length p.bc, slots := [16] },
      { val := fun _ => .slice p.ta p.ts.length p.tc, slots := [18] }] [[], [0], [], [2], [0, 1], [0, 1, 2, 3, 4]] (by kernel_rfl) (by kernel_rfl) (by kernel_rfl) (by kernel_rfl) [1, 2, 4, 8, 9, 10, 11] [0, 1, 2] (by kernel_rfl)
      ⟨⟨⟨⟨⟨⟨trivial,
      tri_quietW (fun β => []) [] [] (fun β => []) (by kernel_rfl) (fun β extra => by kernel_rfl) (by kernel_rfl) (fun β => trivial)⟩,
      tri_quietW (fun β => []) [0] [0] (fun β => [(pA b1, pA b1)]) (by kernel_rfl) (fun β extra => by kernel_rfl) (by kernel_rfl) (fun β => ⟨rfl, trivial⟩)⟩,
      tri_quietW (fun β => []) [] [] (fun β => []) (by kernel_rfl) (fun β extra => by kernel_rfl) (by kernel_rfl) (fun β => trivial)⟩,
      tri_quietW (fun β => []) [0] [0] (fun β => [(pA b1, pA b1)]) (by kernel_rfl) (fun β extra => by kernel_rfl) (by kernel_rfl) (fun β => ⟨rfl, trivial⟩)⟩,
      tri_quietW (fun β => []) [] [] (fun β => []) (by kernel_rfl) (fun β extra => by kernel_rfl) (by kernel_rfl) (fun β => trivial)⟩,
      tri_quietW (fun β => []) [] [] (fun β => []) (by kernel_rfl) (fun β extra => by kernel_rfl) (by kernel_rfl) (fun β => trivial)⟩
      (fun β => ⟨[(1, iV (b : Int)), (2, iV k), (4, pA b1), (8, pA b3), (9, .func (.func 69) #[] #[pA b2]), (10, .slice (some ⟨bq0, oq0, none⟩) p.bs.length p.bc), (11, .slice p.ta p.ts.length p.tc)], [(b3, aO #[.slice none 0 0, iV 0, iV 0, .slice none 0 0] 33), (b2, aO #[.bool hi] 4), (b1, aO #[.slice (some ⟨bq0, oq0, none⟩) p.bs.length p.bc, iV p.near, iV p.last, .slice p.ta p.ts.length p.tc] 33)]⟩) (fun β => by kernel_rfl) (fun β4 => ?_)
  refine run_auto [] 2 [] [] [1, 2, 4, 8, 9, 10, 11] [0, 1, 2] (st' := ⟨[(1, iV (b : Int)), (2, iV k), (4, pA b1), (8, pA b3), (9, .func (.func 69) #[] #[pA b2]), (10, .slice (some ⟨bq0, oq0, none⟩) p.bs.length p.bc), (11, .slice p.ta p.ts.length p.tc)], [(b3, aO #[.slice none 0 0, iV 0, iV 0, .slice none 0 0] 33), (b2, aO #[.bool hi] 4), (b1, aO #[.slice (some ⟨bq0, oq0, none⟩) p.bs.length p.bc, iV p.near, iV p.last, .slice p.ta p.ts.length p.tc] 33)]⟩) (acc := []) (by kernel_rfl) (by kernel_rfl) trivial ?_
  refine run_new (aO #[] 54) (fun b5 => sV b5 0 0) (some 19) (fun _ => by kernel_rfl) (fun b5 hb5 => ?_)
  refine run_auto [] 1 [] [] [1, 2, 4, 8, 9, 10, 11, 19, 20] [0, 1, 2, 3] (st' := ⟨[(1, iV (b : Int)), (2, iV k), (4, pA b1), (8, pA b3), (9, .func (.func 69) #[] #[pA b2]), (10, .slice (some ⟨bq0, oq0, none⟩) p.bs.length p.bc), (11, .slice p.ta p.ts.length p.tc), (19, sV b5 0 0), (20, .slice (some ⟨bq0, oq0, none⟩) p.bs.length p.bc)], [(b5, aO #[] 54), (b3, aO #[.slice none 0 0, iV 0, iV 0, .slice none 0 0] 33), (b2, aO #[.bool hi] 4), (b1, aO #[.slice (some ⟨bq0, oq0, none⟩) p.bs.length p.bc, iV p.near, iV p.last, .slice p.ta p.ts.length p.tc] 33)]⟩) (acc := []) (by kernel_rfl) (by kernel_rfl) trivial ?_
  refine run_app (t := 30) (ty := 30) (e := 54) (n := 6) (z := (.agg #[iV 0, iV 0, iV 0, iV 0, iV 0, iV 0])) (by kernel_rfl) (by kernel_rfl) (by kernel_rfl) rfl (by kernel_rfl) bkR bkR_len bkR_one (some 21) 0 b5 0 p.bs.length 0 p.bc ([] : List Bk) p.bs ([]) ⟨bq0, oq0, none⟩ (by first | rfl | omega | (simp; done) | (simp; omega)) (by first | rfl | omega | (simp; done) | (simp; omega)) (by kernel_rfl) (by kernel_rfl) (by simp only [maxLen]; omega) rfl (fun w1 k1 h1 jq uq hu => hce w1 k1 jq uq hu) (by omega) hb5 (fun b6 cap6 sp6 hb6 hqb6 hmb6 hlb6 => ?_)
  refine run_auto [] 6 [] [3, 3] [1, 2, 4, 8, 9, 10, 11] [0, 1, 2, 3] (st' := ⟨[(1, iV (b : Int)), (2, iV k), (4, pA b1), (8, pA b3), (9, .func (.func 69) #[] #[pA b2]), (10, .slice (some ⟨bq0, oq0, none⟩) p.bs.length p.bc), (11, .slice p.ta p.ts.length p.tc)], [(b6, cO ((([] : List Bk) ++ p.bs).flatMap bkR ++ sp6) 54), (b3, aO #[.slice none 0 0, iV 0, iV 0, .slice none 0 0] 33), (b2, aO #[.bool hi] 4), (b1, aO #[sV b6 (0 + p.bs.length) cap6, iV p.near, iV p.last, .slice none 0 0] 33)]⟩) (acc := [(pA b1, pA b1), (pA b1, pA b1)]) (by kernel_rfl) (by kernel_rfl) ⟨rfl, rfl, trivial⟩ ?_
  refine drawW 22 [{ val := fun _ => pA b1, slots := [4] },
      { val := fun _ => sV b6 (0 + p.bs.length) cap6, slots := [24], reads := [3] },
      { val := fun _ => iV (b : Int), slots := [1] },
      { val := fun _ => pA b1, slots := [4] },
      { val := fun _ => sV b6 (0 + p.bs.length) cap6, slots := [27], reads := [3] },
      { val := fun _ => iV (b : Int), slots := [1] },
      { val := fun _ => .func (.func 69) #[] #[pA b2], slots := [9] },
      { val := fun _ => .slice (some ⟨bq0, oq0, none⟩) p.bs.length p.bc, slots := [10] },
      { val := fun _ => iV (b : Int), slots := [1] },
      { val := fun _ => .pointer (some ⟨bq0, oq0 + b * 6, none⟩), slots := [31, 32] },
      { val := fun _ => .pointer (some ⟨bq0, oq0 + b * 6, none⟩), slots := [33] },
      { val := fun _ => .agg #[iV (elB p.bs b).1, iV (elB p.bs b).2.1], slots := [34] },
      { val := fun _ => .agg #[iV (endV hi ((elB p.bs b).1, (elB p.bs b).2.1)), iV (endV hi ((elB p.bs b).1, (elB p.bs b).2.1))], slots := [30, 35], reads := [2] },
      { val := fun _ => iV k, slots := [2] },
      { val := fun _ => iV k, slots := [2] },
      { val := fun _ => .agg #[iV k, iV k], slots := [37, 38] },
      { val := fun _ => .pointer (some ⟨b6, b * 6, none⟩), slots := [25, 26] },
      { val := fun _ => .pointer (some ⟨b6, b * 6, none⟩), slots := [40] },
      { upd := [(0, fun _ => cO ((((([] : List Bk) ++ p.bs).set b ((endV hi ((elB p.bs b).1, (elB p.bs b).2.1)), (endV hi ((elB p.bs b).1, (elB p.bs b).2.1)), (elB (([] : List Bk) ++ p.bs) b).2.2))).flatMap bkR ++ sp6) 54)], slots := [36, 41], reads := [0] },
      { val := fun _ => .pointer (some ⟨b6, b * 6, none⟩), slots := [28, 29] },
      { val := fun _ => .pointer (some ⟨b6, b * 6 + 2, none⟩), slots := [42] },
      { upd := [(0, fun _ => cO ((((((([] : List Bk) ++ p.bs).set b ((endV hi ((elB p.bs b).1, (elB p.bs b).2.1)), (endV hi ((elB p.bs b).1, (elB p.bs b).2.1)), (elB (([] : List Bk) ++ p.bs) b).2.2))).set b ((elB ((([] : List Bk) ++ p.bs).set b ((endV hi ((elB p.bs b).1, (elB p.bs b).2.1)), (endV hi ((elB p.bs b).1, (elB p.bs b).2.1)), (elB (([] : List Bk) ++ p.bs) b).2.2)) b).1, (elB ((([] : List Bk) ++ p.bs).set b ((endV hi ((elB p.bs b).1, (elB p.bs b).2.1)), (endV hi ((elB p.bs b).1, (elB p.bs b).2.1)), (elB (([] : List Bk) ++ p.bs) b).2.2)) b).2.1, k, k, (elB ((([] : List Bk) ++ p.bs).set b ((endV hi ((elB p.bs b).1, (elB p.bs b).2.1)), (endV hi ((elB p.bs b).1, (elB p.bs b).2.1)), (elB (([] : List Bk) ++ p.bs) b).2.2)) b).2.2.2.2))).flatMap bkR ++ sp6) 54)], slots := [39, 43], reads := [0] }] [[], [0], [], [], [3], [], [], [], [], [7, 8], [7, 8, 9], [7, 8, 9, 10], [6, 7, 8, 9, 10, 11], [], [], [6, 7, 8, 9, 10, 11, 12, 13, 14], [0, 1, 2, 6, 7, 8, 9, 10, 11, 12, 13, 14, 15], [0, 1, 2, 6, 7, 8, 9, 10, 11, 12, 13, 14, 15, 16], [0, 1, 2, 6, 7, 8, 9, 10, 11, 12, 13, 14, 15, 16, 17], [0, 1, 2, 3, 4, 5, 6, 7, 8, 9, 10, 11, 12, 13, 14, 15, 16, 17, 18], [0, 1, 2, 3, 4, 5, 6, 7, 8, 9, 10, 11, 12, 13, 14, 15, 16, 17, 18, 19], [0, 1, 2, 3, 4, 5, 6, 7, 8, 9, 10, 11, 12, 13, 14, 15, 16, 17, 18, 19, 20]] (by kernel_rfl) (by kernel_rfl) (by kernel_rfl) (by kernel_rfl) [4, 8, 9, 11] [0, 1, 2, 3] (by kernel_rfl)
      ⟨⟨⟨⟨⟨⟨⟨⟨⟨⟨⟨⟨⟨⟨⟨⟨⟨⟨⟨⟨⟨⟨trivial,
      tri_quietW (fun β => []) [] [] (fun β => []) (by kernel_rfl) (fun β extra => by kernel_rfl) (by kernel_rfl) (fun β => trivial)⟩,
      tri_quietW (fun β => []) [0] [0] (fun β => [(pA b1, pA b1)]) (by kernel_rfl) (fun β extra => by kernel_rfl) (by kernel_rfl) (fun β => ⟨rfl, trivial⟩)⟩,
      tri_quietW (fun β => []) [] [] (fun β => []) (by kernel_rfl) (fun β extra => by kernel_rfl) (by kernel_rfl) (fun β => trivial)⟩,
      tri_quietW (fun β => []) [] [] (fun β => []) (by kernel_rfl) (fun β extra => by kernel_rfl) (by kernel_rfl) (fun β => trivial)⟩,
      tri_quietW (fun β => []) [0] [0] (fun β => [(pA b1, pA b1)]) (by kernel_rfl) (fun β extra => by kernel_rfl) (by kernel_rfl) (fun β => ⟨rfl, trivial⟩)⟩,
      tri_quietW (fun β => []) [] [] (fun β => []) (by kernel_rfl) (fun β extra => by kernel_rfl) (by kernel_rfl) (fun β => trivial)⟩,
      tri_quietW (fun β => []) [] [] (fun β => []) (by kernel_rfl) (fun β extra => by kernel_rfl) (by kernel_rfl) (fun β => trivial)⟩,
      tri_quietW (fun β => []) [] [] (fun β => []) (by kernel_rfl) (fun β extra => by kernel_rfl) (by kernel_rfl) (fun β => trivial)⟩,
      tri_quietW (fun β => []) [] [] (fun β => []) (by kernel_rfl) (fun β extra => by kernel_rfl) (by kernel_rfl) (fun β => trivial)⟩,
      tri_vVW (fun β => .pointer (some ⟨bq0, oq0 + b * 6, none⟩)) (fun β => by kernel_rfl) (fun β => (Instr.indexAt 30 (.slice (some ⟨bq0, oq0, none⟩) p.bs.length p.bc) (iV (b : Int)) >>= fun v => pure (Next.value v))) (by kernel_rfl) (fun β extra => by kernel_rfl) (fun β => by kernel_rfl) (fun β w1 k1 h1 => (by rw [show (some (⟨bq0, oq0, none⟩ : Addr)) = some ⟨bq0, oq0, none⟩ from rfl]; exact idx_off (e := 54) (n := 6) (by kernel_rfl) (by kernel_rfl) bq0 oq0 p.bs.length p.bc .i64 b hbl (oq0 + b * 6) (by omega) w1))⟩,
      tri_quietW (fun β => []) [] [] (fun β => []) (by kernel_rfl) (fun β extra => by kernel_rfl) (by kernel_rfl) (fun β => trivial)⟩,
      tri_vVW (fun β => .agg #[iV (elB p.bs b).1, iV (elB p.bs b).2.1]) (fun β => by kernel_rfl) (fun β => (Instr.loadAt 23 (.pointer (some ⟨bq0, oq0 + b * 6, none⟩)) >>= fun v => pure (Next.value v))) (by kernel_rfl) (fun β extra => by kernel_rfl) (fun β => by kernel_rfl) (fun β w1 k1 h1 => load_in (off := 0) k1 (fun h => h) [iV (elB p.bs b).1, iV (elB p.bs b).2.1, iV (elB p.bs b).2.2.1, iV (elB p.bs b).2.2.2.1, iV (elB p.bs b).2.2.2.2.1, iV (elB p.bs b).2.2.2.2.2] (c6 hcq.1 hcq.2.1 hcq.2.2.1 hcq.2.2.2.1 hcq.2.2.2.2.1 hcq.2.2.2.2.2) (by kernel_rfl))⟩,
      tri_callVW (fun β => .agg #[iV (endV hi ((elB p.bs b).1, (elB p.bs b).2.1)), iV (endV hi ((elB p.bs b).1, (elB p.bs b).2.1))]) (fun β => by kernel_rfl) 69 (fun β => #[.agg #[iV (elB p.bs b).1, iV (elB p.bs b).2.1], pA b2]) (by kernel_rfl) (fun β extra => by kernel_rfl) (fun β => by kernel_rfl) (fun β w1 k1 h1 => end_any (elB p.bs b).1 (elB p.bs b).2.1 hi b2 w1 (h1 (b2, aO #[.bool hi] 4) (List.mem_of_getElem? (i := 0) (by kernel_rfl))))⟩,
      tri_quietW (fun β => []) [] [] (fun β => []) (by kernel_rfl) (fun β extra => by kernel_rfl) (by kernel_rfl) (fun β => trivial)⟩,
      tri_quietW (fun β => []) [] [] (fun β => []) (by kernel_rfl) (fun β extra => by kernel_rfl) (by kernel_rfl) (fun β => trivial)⟩,
      tri_callVW (fun β => .agg #[iV k, iV k]) (fun β => by kernel_rfl) 10 (fun β => #[iV k, iV k]) (by kernel_rfl) (fun β extra => by kernel_rfl) (fun β => by kernel_rfl) (fun β w1 k1 h1 => span_any k k w1)⟩,
      tri_vVW (fun β => .pointer (some ⟨b6, b * 6, none⟩)) (fun β => by kernel_rfl) (fun β => (Instr.indexAt 30 (sV b6 (0 + p.bs.length) cap6) (iV (b : Int)) >>= fun v => pure (Next.value v))) (by kernel_rfl) (fun β extra => by kernel_rfl) (fun β => by kernel_rfl) (fun β w1 k1 h1 => idx_off (e := 54) (n := 6) (by kernel_rfl) (by kernel_rfl) b6 (0) (0 + p.bs.length) cap6 .i64 b (by omega) (b * 6) (by omega) w1)⟩,
      tri_quietW (fun β => []) [] [] (fun β => []) (by kernel_rfl) (fun β extra => by kernel_rfl) (by kernel_rfl) (fun β => trivial)⟩,
      tri_storeW (fun β => b6) (b * 6) 23 (fun β => .agg #[iV (endV hi ((elB p.bs b).1, (elB p.bs b).2.1)), iV (endV hi ((elB p.bs b).1, (elB p.bs b).2.1))]) ((([] : List Bk) ++ p.bs).flatMap bkR ++ sp6) ((((([] : List Bk) ++ p.bs).set b ((endV hi ((elB p.bs b).1, (elB p.bs b).2.1)), (endV hi ((elB p.bs b).1, (elB p.bs b).2.1)), (elB (([] : List Bk) ++ p.bs) b).2.2))).flatMap bkR ++ sp6) 54 (by kernel_rfl) (by kernel_rfl) (fun β extra => by kernel_rfl) (fun β => by kernel_rfl) (fun β => by kernel_rfl) (fun β => flat_storeM (c := bkR) (n := 6) (m := 2) bkR_len (by kernel_rfl) (v := .agg #[iV (endV hi ((elB p.bs b).1, (elB p.bs b).2.1)), iV (endV hi ((elB p.bs b).1, (elB p.bs b).2.1))]) (vs := [iV (endV hi ((elB p.bs b).1, (elB p.bs b).2.1)), iV (endV hi ((elB p.bs b).1, (elB p.bs b).2.1))]) rfl rfl rfl (L := ([] : List Bk) ++ p.bs) (sp := sp6) (i := b) (k := 0) (x := ((endV hi ((elB p.bs b).1, (elB p.bs b).2.1)), (endV hi ((elB p.bs b).1, (elB p.bs b).2.1)), (elB (([] : List Bk) ++ p.bs) b).2.2)) (by first | omega | (simp; omega)) (by omega) (by rw [← elB_at (by first | omega | (simp; omega))]; rfl) (by omega))⟩,
      tri_vVW (fun β => .pointer (some ⟨b6, b * 6, none⟩)) (fun β => by kernel_rfl) (fun β => (Instr.indexAt 30 (sV b6 (0 + p.bs.length) cap6) (iV (b : Int)) >>= fun v => pure (Next.value v))) (by kernel_rfl) (fun β extra => by kernel_rfl) (fun β => by kernel_rfl) (fun β w1 k1 h1 => idx_off (e := 54) (n := 6) (by kernel_rfl) (by kernel_rfl) b6 (0) (0 + p.bs.length) cap6 .i64 b (by omega) (b * 6) (by omega) w1)⟩,
      tri_quietW (fun β => []) [] [] (fun β => []) (by kernel_rfl) (fun β extra => by kernel_rfl) (by kernel_rfl) (fun β => trivial)⟩,
      tri_storeW (fun β => b6) (b * 6 + 2) 23 (fun β => .agg #[iV k, iV k]) ((((([] : List Bk) ++ p.bs).set b ((endV hi ((elB p.bs b).1, (elB p.bs b).2.1)), (endV hi ((elB p.bs b).1, (elB p.bs b).2.1)), (elB (([] : List Bk) ++ p.bs) b).2.2))).flatMap bkR ++ sp6) ((((((([] : List Bk) ++ p.bs).set b ((endV hi ((elB p.bs b).1, (elB p.bs b).2.1)), (endV hi ((elB p.bs b).1, (elB p.bs b).2.1)), (elB (([] : List Bk) ++ p.bs) b).2.2))).set b ((elB ((([] : List Bk) ++ p.bs).set b ((endV hi ((elB p.bs b).1, (elB p.bs b).2.1)), (endV hi ((elB p.bs b).1, (elB p.bs b).2.1)), (elB (([] : List Bk) ++ p.bs) b).2.2)) b).1, (elB ((([] : List Bk) ++ p.bs).set b ((endV hi ((elB p.bs b).1, (elB p.bs b).2.1)), (endV hi ((elB p.bs b).1, (elB p.bs b).2.1)), (elB (([] : List Bk) ++ p.bs) b).2.2)) b).2.1, k, k, (elB ((([] : List Bk) ++ p.bs).set b ((endV hi ((elB p.bs b).1, (elB p.bs b).2.1)), (endV hi ((elB p.bs b).1, (elB p.bs b).2.1)), (elB (([] : List Bk) ++ p.bs) b).2.2)) b).2.2.2.2))).flatMap bkR ++ sp6) 54 (by kernel_rfl) (by kernel_rfl) (fun β extra => by kernel_rfl) (fun β => by kernel_rfl) (fun β => by kernel_rfl) (fun β => flat_storeM (c := bkR) (n := 6) (m := 2) bkR_len (by kernel_rfl) (v := .agg #[iV k, iV k]) (vs := [iV k, iV k]) rfl rfl rfl (L := ((([] : List Bk) ++ p.bs).set b ((endV hi ((elB p.bs b).1, (elB p.bs b).2.1)), (endV hi ((elB p.bs b).1, (elB p.bs b).2.1)), (elB (([] : List Bk) ++ p.bs) b).2.2))) (sp := sp6) (i := b) (k := 2) (x := ((elB ((([] : List Bk) ++ p.bs).set b ((endV hi ((elB p.bs b).1, (elB p.bs b).2.1)), (endV hi ((elB p.bs b).1, (elB p.bs b).2.1)), (elB (([] : List Bk) ++ p.bs) b).2.2)) b).1, (elB ((([] : List Bk) ++ p.bs).set b ((endV hi ((elB p.bs b).1, (elB p.bs b).2.1)), (endV hi ((elB p.bs b).1, (elB p.bs b).2.1)), (elB (([] : List Bk) ++ p.bs) b).2.2)) b).2.1, k, k, (elB ((([] : List Bk) ++ p.bs).set b ((endV hi ((elB p.bs b).1, (elB p.bs b).2.1)), (endV hi ((elB p.bs b).1, (elB p.bs b).2.1)), (elB (([] : List Bk) ++ p.bs) b).2.2)) b).2.2.2.2)) (by first | omega | (simp; omega)) (by omega) (by rw [← elB_at (by first | omega | (simp; omega))]; rfl) (by omega))⟩
      (fun β => ⟨[(4, pA b1), (8, pA b3), (9, .func (.func 69) #[] #[pA b2]), (11, .slice p.ta p.ts.length p.tc)], [(b6, cO ((((((([] : List Bk) ++ p.bs).set b ((endV hi ((elB p.bs b).1, (elB p.bs b).2.1)), (endV hi ((elB p.bs b).1, (elB p.bs b).2.1)), (elB (([] : List Bk) ++ p.bs) b).2.2))).set b ((elB ((([] : List Bk) ++ p.bs).set b ((endV hi ((elB p.bs b).1, (elB p.bs b).2.1)), (endV hi ((elB p.bs b).1, (elB p.bs b).2.1)), (elB (([] : List Bk) ++ p.bs) b).2.2)) b).1, (elB ((([] : List Bk) ++ p.bs).set b ((endV hi ((elB p.bs b).1, (elB p.bs b).2.1)), (endV hi ((elB p.bs b).1, (elB p.bs b).2.1)), (elB (([] : List Bk) ++ p.bs) b).2.2)) b).2.1, k, k, (elB ((([] : List Bk) ++ p.bs).set b ((endV hi ((elB p.bs b).1, (elB p.bs b).2.1)), (endV hi ((elB p.bs b).1, (elB p.bs b).2.1)), (elB (([] : List Bk) ++ p.bs) b).2.2)) b).2.2.2.2))).flatMap bkR ++ sp6) 54), (b3, aO #[.slice none 0 0, iV 0, iV 0, .slice none 0 0] 33), (b2, aO #[.bool hi] 4), (b1, aO #[sV b6 (0 + p.bs.length) cap6, iV p.near, iV p.last, .slice none 0 0] 33)]⟩) (fun β => by kernel_rfl) (fun β7 => ?_)
  refine run_auto [] 8 [] [] [4, 8, 9, 44, 45, 46] [0, 1, 2, 3] (st' := ⟨[(4, pA b1), (8, pA b3), (9, .func (.func 69) #[] #[pA b2]), (44, .slice p.ta p.ts.length p.tc), (45, iV (p.ts.length : Int)), (46, iV 0)], [(b6, cO ((((((([] : List Bk) ++ p.bs).set b ((endV hi ((elB p.bs b).1, (elB p.bs b).2.1)), (endV hi ((elB p.bs b).1, (elB p.bs b).2.1)), (elB (([] : List Bk) ++ p.bs) b).2.2))).set b ((elB ((([] : List Bk) ++ p.bs).set b ((endV hi ((elB p.bs b).1, (elB p.bs b).2.1)), (endV hi ((elB p.bs b).1, (elB p.bs b).2.1)), (elB (([] : List Bk) ++ p.bs) b).2.2)) b).1, (elB ((([] : List Bk) ++ p.bs).set b ((endV hi ((elB p.bs b).1, (elB p.bs b).2.1)), (endV hi ((elB p.bs b).1, (elB p.bs b).2.1)), (elB (([] : List Bk) ++ p.bs) b).2.2)) b).2.1, k, k, (elB ((([] : List Bk) ++ p.bs).set b ((endV hi ((elB p.bs b).1, (elB p.bs b).2.1)), (endV hi ((elB p.bs b).1, (elB p.bs b).2.1)), (elB (([] : List Bk) ++ p.bs) b).2.2)) b).2.2.2.2))).flatMap bkR ++ sp6) 54), (b3, aO #[.slice none 0 0, iV 0, iV 0, .slice none 0 0] 33), (b2, aO #[.bool hi] 4), (b1, aO #[sV b6 (0 + p.bs.length) cap6, iV p.near, iV p.last, .slice none 0 0] 33)]⟩) (acc := []) (by kernel_rfl) (by kernel_rfl) trivial ?_
  refine run_auto [] 0 [] [] [4, 8, 9, 44, 45, 46] [0, 1, 2, 3] (st' := ⟨[(4, pA b1), (8, pA b3), (9, .func (.func 69) #[] #[pA b2]), (44, .slice p.ta p.ts.length p.tc), (45, iV (p.ts.length : Int)), (46, iV 0)], [(b6, cO ((((((([] : List Bk) ++ p.bs).set b ((endV hi ((elB p.bs b).1, (elB p.bs b).2.1)), (endV hi ((elB p.bs b).1, (elB p.bs b).2.1)), (elB (([] : List Bk) ++ p.bs) b).2.2))).set b ((elB ((([] : List Bk) ++ p.bs).set b ((endV hi ((elB p.bs b).1, (elB p.bs b).2.1)), (endV hi ((elB p.bs b).1, (elB p.bs b).2.1)), (elB (([] : List Bk) ++ p.bs) b).2.2)) b).1, (elB ((([] : List Bk) ++ p.bs).set b ((endV hi ((elB p.bs b).1, (elB p.bs b).2.1)), (endV hi ((elB p.bs b).1, (elB p.bs b).2.1)), (elB (([] : List Bk) ++ p.bs) b).2.2)) b).2.1, k, k, (elB ((([] : List Bk) ++ p.bs).set b ((endV hi ((elB p.bs b).1, (elB p.bs b).2.1)), (endV hi ((elB p.bs b).1, (elB p.bs b).2.1)), (elB (([] : List Bk) ++ p.bs) b).2.2)) b).2.2.2.2))).flatMap bkR ++ sp6) 54), (b3, aO #[.slice none 0 0, iV 0, iV 0, .slice none 0 0] 33), (b2, aO #[.bool hi] 4), (b1, aO #[sV b6 (0 + p.bs.length) cap6, iV p.near, iV p.last, .slice none 0 0] 33)]⟩) (acc := []) (by kernel_rfl) (by kernel_rfl) trivial ?_
  refine run_loop (S := fun (v : Nat × Option (Nat × Nat × List Value)) => match v with | (i, none) => ⟨[(4, pA b1), (8, pA b3), (9, .func (.func 69) #[] #[pA b2]), (44, .slice p.ta p.ts.length p.tc), (45, iV (p.ts.length : Int)), (46, iV (i : Int))], [(b6, cO ((((((([] : List Bk) ++ p.bs).set b ((endV hi ((elB p.bs b).1, (elB p.bs b).2.1)), (endV hi ((elB p.bs b).1, (elB p.bs b).2.1)), (elB (([] : List Bk) ++ p.bs) b).2.2))).set b ((elB ((([] : List Bk) ++ p.bs).set b ((endV hi ((elB p.bs b).1, (elB p.bs b).2.1)), (endV hi ((elB p.bs b).1, (elB p.bs b).2.1)), (elB (([] : List Bk) ++ p.bs) b).2.2)) b).1, (elB ((([] : List Bk) ++ p.bs).set b ((endV hi ((elB p.bs b).1, (elB p.bs b).2.1)), (endV hi ((elB p.bs b).1, (elB p.bs b).2.1)), (elB (([] : List Bk) ++ p.bs) b).2.2)) b).2.1, k, k, (elB ((([] : List Bk) ++ p.bs).set b ((endV hi ((elB p.bs b).1, (elB p.bs b).2.1)), (endV hi ((elB p.bs b).1, (elB p.bs b).2.1)), (elB (([] : List Bk) ++ p.bs) b).2.2)) b).2.2.2.2))).flatMap bkR ++ sp6) 54), (b3, aO #[.slice none 0 0, iV 0, iV 0, .slice none 0 0] 33), (b2, aO #[.bool hi] 4), (b1, aO #[sV b6 (0 + p.bs.length) cap6, iV p.near, iV p.last, .slice none 0 0] 33)]⟩ | (i, some (gt, ct, st)) => ⟨[(4, pA b1), (8, pA b3), (9, .func (.func 69) #[] #[pA b2]), (44, .slice p.ta p.ts.length p.tc), (45, iV (p.ts.length : Int)), (46, iV (i : Int))], [(gt, cO ((exT hi p.ts i).flatMap tcR ++ st) 61), (b6, cO ((((((([] : List Bk) ++ p.bs).set b ((endV hi ((elB p.bs b).1, (elB p.bs b).2.1)), (endV hi ((elB p.bs b).1, (elB p.bs b).2.1)), (elB (([] : List Bk) ++ p.bs) b).2.2))).set b ((elB ((([] : List Bk) ++ p.bs).set b ((endV hi ((elB p.bs b).1, (elB p.bs b).2.1)), (endV hi ((elB p.bs b).1, (elB p.bs b).2.1)), (elB (([] : List Bk) ++ p.bs) b).2.2)) b).1, (elB ((([] : List Bk) ++ p.bs).set b ((endV hi ((elB p.bs b).1, (elB p.bs b).2.1)), (endV hi ((elB p.bs b).1, (elB p.bs b).2.1)), (elB (([] : List Bk) ++ p.bs) b).2.2)) b).2.1, k, k, (elB ((([] : List Bk) ++ p.bs).set b ((endV hi ((elB p.bs b).1, (elB p.bs b).2.1)), (endV hi ((elB p.bs b).1, (elB p.bs b).2.1)), (elB (([] : List Bk) ++ p.bs) b).2.2)) b).2.2.2.2))).flatMap bkR ++ sp6) 54), (b3, aO #[.slice none 0 0, iV 0, iV 0, .slice none 0 0] 33), (b2, aO #[.bool hi] 4), (b1, aO #[sV b6 (0 + p.bs.length) cap6, iV p.near, iV p.last, sV gt i ct] 33)]⟩) (fun v => v.1 ≤ p.ts.length ∧ match v.2 with | none => v.1 = 0 | some (gt, ct, st) => 1 ≤ v.1 ∧ v.1 ≤ ct ∧ ct ≤ maxLen ∧ ((exT hi p.ts v.1).flatMap tcR ++ st).length = ct * 4 ∧ w.heap.size ≤ gt) (fun v => p.ts.length - v.1) ((0, none)) (by kernel_rfl) (⟨Nat.zero_le _, rfl⟩) (by kernel_rfl) (fun v hI0 J0 hJ0 => ?_)
  obtain ⟨i, _ | ⟨gt, ct, st⟩⟩ := v
  · skip
    obtain ⟨hz1, hz3⟩ := hI0
    dsimp only at hz1 hz3
    have hzl := exT_len hi p.ts hz1
    have hml : (1000000 : Nat) ≤ maxLen := by simp only [maxLen]; omega
    cases hd1 : (decide ((i : Int) < (p.ts.length : Int))) with
    | false =>
      have hp1 := of_decide_eq_false hd1
      refine run_auto [(47, .bool false)] 12 [false] [3, 1] [8] [0, 1] (st' := ⟨[(8, pA b3)], [(b6, cO ((((((([] : List Bk) ++ p.bs).set b ((endV hi ((elB p.bs b).1, (elB p.bs b).2.1)), (endV hi ((elB p.bs b).1, (elB p.bs b).2.1)), (elB (([] : List Bk) ++ p.bs) b).2.2))).set b ((elB ((([] : List Bk) ++ p.bs).set b ((endV hi ((elB p.bs b).1, (elB p.bs b).2.1)), (endV hi ((elB p.bs b).1, (elB p.bs b).2.1)), (elB (([] : List Bk) ++ p.bs) b).2.2)) b).1, (elB ((([] : List Bk) ++ p.bs).set b ((endV hi ((elB p.bs b).1, (elB p.bs b).2.1)), (endV hi ((elB p.bs b).1, (elB p.bs b).2.1)), (elB (([] : List Bk) ++ p.bs) b).2.2)) b).2.1, k, k, (elB ((([] : List Bk) ++ p.bs).set b ((endV hi ((elB p.bs b).1, (elB p.bs b).2.1)), (endV hi ((elB p.bs b).1, (elB p.bs b).2.1)), (elB (([] : List Bk) ++ p.bs) b).2.2)) b).2.2.2.2))).flatMap bkR ++ sp6) 54), (b3, aO #[sV b6 (0 + p.bs.length) cap6, iV p.near, iV p.last, .slice none 0 0] 33)]⟩) (acc := [(pA b3, pA b3), (pA b1, pA b1), (.bool false, .bool false), (.bool (decide ((i : Int) < (p.ts.length : Int))), .bool false)]) (by kernel_rfl) (by kernel_rfl) ⟨rfl, rfl, rfl, (bo hd1), trivial⟩ ?_
      refine run_end (fn := f27) rfl (Nat.le_refl _) (by kernel_rfl) [1] [.agg #[sV b6 (0 + p.bs.length) cap6, iV p.near, iV p.last, .slice none 0 0]] (e := [(pA b3, pA b3)]) (by kernel_rfl) ⟨rfl, trivial⟩ (fun w1 k1 h1 => ?_)
      rw [List.nil_append, ex_set hbl hi k] at h1
      refine ⟨(b6, cap6, sp6), trivial, ?_, k1.keeps (fun _ h => h), fun q hq => ?_, ?_⟩
      · show Ending.returned _ = Ending.returned _
        dsimp only
        rw [show (p.bs.set b (exB hi k (elB p.bs b))).length = 0 + p.bs.length by rw [List.length_set]; try omega]
        rfl
      · simp only [List.mem_cons, List.not_mem_nil, or_false] at hq
        subst hq
        exact ⟨h1 (b6, _) (List.mem_of_getElem? (i := 0) rfl), hb6⟩
      · exact List.pairwise_singleton _ _
    | true =>
      have hp1 := of_decide_eq_true hd1
      have hltq : i < p.ts.length := by omega
      obtain ⟨beq, oeq, hbeq, hcq⟩ := hp.tk (by intro h; rw [h] at hltq; cases hltq)
      have hcq := hcq i hltq
      refine run_auto [(47, .bool true)] 11 [true] [] [4, 8, 9, 44, 45, 46] [0, 1, 2, 3] (st' := ⟨[(4, pA b1), (8, pA b3), (9, .func (.func 69) #[] #[pA b2]), (44, .slice p.ta p.ts.length p.tc), (45, iV (p.ts.length : Int)), (46, iV (i : Int))], [(b6, cO ((((((([] : List Bk) ++ p.bs).set b ((endV hi ((elB p.bs b).1, (elB p.bs b).2.1)), (endV hi ((elB p.bs b).1, (elB p.bs b).2.1)), (elB (([] : List Bk) ++ p.bs) b).2.2))).set b ((elB ((([] : List Bk) ++ p.bs).set b ((endV hi ((elB p.bs b).1, (elB p.bs b).2.1)), (endV hi ((elB p.bs b).1, (elB p.bs b).2.1)), (elB (([] : List Bk) ++ p.bs) b).2.2)) b).1, (elB ((([] : List Bk) ++ p.bs).set b ((endV hi ((elB p.bs b).1, (elB p.bs b).2.1)), (endV hi ((elB p.bs b).1, (elB p.bs b).2.1)), (elB (([] : List Bk) ++ p.bs) b).2.2)) b).2.1, k, k, (elB ((([] : List Bk) ++ p.bs).set b ((endV hi ((elB p.bs b).1, (elB p.bs b).2.1)), (endV hi ((elB p.bs b).1, (elB p.bs b).2.1)), (elB (([] : List Bk) ++ p.bs) b).2.2)) b).2.2.2.2))).flatMap bkR ++ sp6) 54), (b3, aO #[.slice none 0 0, iV 0, iV 0, .slice none 0 0] 33), (b2, aO #[.bool hi] 4), (b1, aO #[sV b6 (0 + p.bs.length) cap6, iV p.near, iV p.last, .slice none 0 0] 33)]⟩) (acc := [(.bool true, .bool true), (.bool (decide ((i : Int) < (p.ts.length : Int))), .bool true)]) (by kernel_rfl) (by kernel_rfl) ⟨rfl, (bo hd1), trivial⟩ ?_
      refine run_v (Instr.indexAt 31 (.slice p.ta p.ts.length p.tc) (iV (i : Int)) >>= fun v => pure (Next.value v)) (some 48) (.pointer (some ⟨beq, oeq + i * 4, none⟩)) (by kernel_rfl) (fun w1 k1 h1 => (by rw [hbeq]; exact idx_off (e := 61) (n := 4) (by kernel_rfl) (by kernel_rfl) beq oeq p.ts.length p.tc .i64 i hltq (oeq + i * 4) (by omega) w1)) ?_
      refine run_v (Instr.loadAt 61 (.pointer (some ⟨beq, oeq + i * 4, none⟩)) >>= fun v => pure (Next.value v)) (some 49) (.agg #[iV (elT p.ts i).1, iV (elT p.ts i).2.1, iV (elT p.ts i).2.2.1, iV (elT p.ts i).2.2.2]) (by kernel_rfl) (fun w1 k1 h1 => load_in (off := 0) k1 (fun h => h) [iV (elT p.ts i).1, iV (elT p.ts i).2.1, iV (elT p.ts i).2.2.1, iV (elT p.ts i).2.2.2] (c4 hcq.1 hcq.2.1 hcq.2.2.1 hcq.2.2.2) (by kernel_rfl)) ?_
      refine run_new (aO #[iV 0, iV 0, iV 0, iV 0] 61) (fun b8 => pA b8) (some 13) (fun _ => by kernel_rfl) (fun b8 hb8 => ?_)
      refine run_auto [] 7 [] [0, 0] [4, 8, 9, 44, 45, 46, 13, 50, 52] [0, 1, 2, 3, 4] (st' := ⟨[(4, pA b1), (8, pA b3), (9, .func (.func 69) #[] #[pA b2]), (44, .slice p.ta p.ts.length p.tc), (45, iV (p.ts.length : Int)), (46, iV (i : Int)), (13, pA b8), (50, .func (.func 69) #[] #[pA b2]), (52, .agg #[iV (elT p.ts i).2.2.1, iV (elT p.ts i).2.2.2])], [(b8, aO #[iV (elT p.ts i).1, iV (elT p.ts i).2.1, iV (elT p.ts i).2.2.1, iV (elT p.ts i).2.2.2] 61), (b6, cO ((((((([] : List Bk) ++ p.bs).set b ((endV hi ((elB p.bs b).1, (elB p.bs b).2.1)), (endV hi ((elB p.bs b).1, (elB p.bs b).2.1)), (elB (([] : List Bk) ++ p.bs) b).2.2))).set b ((elB ((([] : List Bk) ++ p.bs).set b ((endV hi ((elB p.bs b).1, (elB p.bs b).2.1)), (endV hi ((elB p.bs b).1, (elB p.bs b).2.1)), (elB (([] : List Bk) ++ p.bs) b).2.2)) b).1, (elB ((([] : List Bk) ++ p.bs).set b ((endV hi ((elB p.bs b).1, (elB p.bs b).2.1)), (endV hi ((elB p.bs b).1, (elB p.bs b).2.1)), (elB (([] : List Bk) ++ p.bs) b).2.2)) b).2.1, k, k, (elB ((([] : List Bk) ++ p.bs).set b ((endV hi ((elB p.bs b).1, (elB p.bs b).2.1)), (endV hi ((elB p.bs b).1, (elB p.bs b).2.1)), (elB (([] : List Bk) ++ p.bs) b).2.2)) b).2.2.2.2))).flatMap bkR ++ sp6) 54), (b3, aO #[.slice none 0 0, iV 0, iV 0, .slice none 0 0] 33), (b2, aO #[.bool hi] 4), (b1, aO #[sV b6 (0 + p.bs.length) cap6, iV p.near, iV p.last, .slice none 0 0] 33)]⟩) (acc := [(pA b8, pA b8), (pA b8, pA b8)]) (by kernel_rfl) (by kernel_rfl) ⟨rfl, rfl, trivial⟩ ?_
      refine run_ret1 69 #[.agg #[iV (elT p.ts i).2.2.1, iV (elT p.ts i).2.2.2], pA b2] (some 53) (.agg #[iV (endV hi (elT p.ts i).2.2), iV (endV hi (elT p.ts i).2.2)]) (by kernel_rfl) (fun w1 k1 h1 => end_any (elT p.ts i).2.2.1 (elT p.ts i).2.2.2 hi b2 w1 (h1 (b2, aO #[.bool hi] 4) (List.mem_of_getElem? (i := 3) (by kernel_rfl)))) ?_
      refine run_auto [] 7 [] [0, 4, 0] [4, 8, 9, 44, 45, 46, 56, 57] [1, 2, 3, 4] (st' := ⟨[(4, pA b1), (8, pA b3), (9, .func (.func 69) #[] #[pA b2]), (44, .slice p.ta p.ts.length p.tc), (45, iV (p.ts.length : Int)), (46, iV (i : Int)), (56, .slice none 0 0), (57, .agg #[iV (elT p.ts i).1, iV (elT p.ts i).2.1, iV (endV hi (elT p.ts i).2.2), iV (endV hi (elT p.ts i).2.2)])], [(b6, cO ((((((([] : List Bk) ++ p.bs).set b ((endV hi ((elB p.bs b).1, (elB p.bs b).2.1)), (endV hi ((elB p.bs b).1, (elB p.bs b).2.1)), (elB (([] : List Bk) ++ p.bs) b).2.2))).set b ((elB ((([] : List Bk) ++ p.bs).set b ((endV hi ((elB p.bs b).1, (elB p.bs b).2.1)), (endV hi ((elB p.bs b).1, (elB p.bs b).2.1)), (elB (([] : List Bk) ++ p.bs) b).2.2)) b).1, (elB ((([] : List Bk) ++ p.bs).set b ((endV hi ((elB p.bs b).1, (elB p.bs b).2.1)), (endV hi ((elB p.bs b).1, (elB p.bs b).2.1)), (elB (([] : List Bk) ++ p.bs) b).2.2)) b).2.1, k, k, (elB ((([] : List Bk) ++ p.bs).set b ((endV hi ((elB p.bs b).1, (elB p.bs b).2.1)), (endV hi ((elB p.bs b).1, (elB p.bs b).2.1)), (elB (([] : List Bk) ++ p.bs) b).2.2)) b).2.2.2.2))).flatMap bkR ++ sp6) 54), (b3, aO #[.slice none 0 0, iV 0, iV 0, .slice none 0 0] 33), (b2, aO #[.bool hi] 4), (b1, aO #[sV b6 (0 + p.bs.length) cap6, iV p.near, iV p.last, .slice none 0 0] 33)]⟩) (acc := [(pA b8, pA b8), (pA b1, pA b1), (pA b8, pA b8)]) (by kernel_rfl) (by kernel_rfl) ⟨rfl, rfl, rfl, trivial⟩ ?_
      refine run_new (aO #[iV (elT p.ts i).1, iV (elT p.ts i).2.1, iV (endV hi (elT p.ts i).2.2), iV (endV hi (elT p.ts i).2.2)] 61) (fun b9 => sV b9 1 1) (some 58) (fun _ => by kernel_rfl) (fun b9 hb9 => ?_)
      refine run_app_none (t := 31) (ty := 31) (e := 61) (n := 4) (z := (.agg #[iV 0, iV 0, iV 0, iV 0])) (by kernel_rfl) (by kernel_rfl) (by kernel_rfl) rfl (by kernel_rfl) tcR tcR_len (some 59) 1 1 ([((elT p.ts i).1, (elT p.ts i).2.1, (endV hi (elT p.ts i).2.2), (endV hi (elT p.ts i).2.2))] : List Tc) ⟨b9, 0, none⟩ (by first | rfl | omega | (simp; done) | (simp; omega)) (by omega) (by kernel_rfl) (fun w1 k1 h1 jq uq hu => by rw [add_none, Nat.zero_add]; exact cells_of_heap (h1 (b9, aO #[iV (elT p.ts i).1, iV (elT p.ts i).2.1, iV (endV hi (elT p.ts i).2.2), iV (endV hi (elT p.ts i).2.2)] 61) (List.mem_of_getElem? (i := 0) (by kernel_rfl))) jq uq hu) (by omega) (fun b10 cap10 sp10 hb10 hqb10 hmb10 hlb10 => ?_)
      refine run_auto [(61, iV ((i + 1 : Nat) : Int))] 8 [] [5] [4, 8, 9, 44, 45, 46] [0, 2, 3, 4, 5] (st' := ⟨[(4, pA b1), (8, pA b3), (9, .func (.func 69) #[] #[pA b2]), (44, .slice p.ta p.ts.length p.tc), (45, iV (p.ts.length : Int)), (46, iV ((i + 1 : Nat) : Int))], [(b10, cO ((([((elT p.ts i).1, (elT p.ts i).2.1, (endV hi (elT p.ts i).2.2), (endV hi (elT p.ts i).2.2))] : List Tc)).flatMap tcR ++ sp10) 61), (b6, cO ((((((([] : List Bk) ++ p.bs).set b ((endV hi ((elB p.bs b).1, (elB p.bs b).2.1)), (endV hi ((elB p.bs b).1, (elB p.bs b).2.1)), (elB (([] : List Bk) ++ p.bs) b).2.2))).set b ((elB ((([] : List Bk) ++ p.bs).set b ((endV hi ((elB p.bs b).1, (elB p.bs b).2.1)), (endV hi ((elB p.bs b).1, (elB p.bs b).2.1)), (elB (([] : List Bk) ++ p.bs) b).2.2)) b).1, (elB ((([] : List Bk) ++ p.bs).set b ((endV hi ((elB p.bs b).1, (elB p.bs b).2.1)), (endV hi ((elB p.bs b).1, (elB p.bs b).2.1)), (elB (([] : List Bk) ++ p.bs) b).2.2)) b).2.1, k, k, (elB ((([] : List Bk) ++ p.bs).set b ((endV hi ((elB p.bs b).1, (elB p.bs b).2.1)), (endV hi ((elB p.bs b).1, (elB p.bs b).2.1)), (elB (([] : List Bk) ++ p.bs) b).2.2)) b).2.2.2.2))).flatMap bkR ++ sp6) 54), (b3, aO #[.slice none 0 0, iV 0, iV 0, .slice none 0 0] 33), (b2, aO #[.bool hi] 4), (b1, aO #[sV b6 (0 + p.bs.length) cap6, iV p.near, iV p.last, sV b10 1 cap10] 33)]⟩) (acc := [(iV (IntKind.i64.wrap ((i : Int) + 1)), iV ((i + 1 : Nat) : Int)), (pA b1, pA b1)]) (by kernel_rfl) (by kernel_rfl) ⟨(wr (by omega) (by omega)), rfl, trivial⟩ ?_
      have hst := exT_next hi (L := p.ts) (i := i) (by omega)
      subst hz3
      rw [show exT hi p.ts 0 = [] from rfl, List.nil_append] at hst
      have hj := hJ0 ((0 + 1, some (b10, cap10, sp10))) (⟨by dsimp only; omega, by dsimp only; omega, hqb10, hmb10, by dsimp only; rw [hst]; exact hlb10, hb10⟩) (by dsimp only; omega)
      dsimp only at hj
      rw [hst] at hj
      exact run_round (by kernel_rfl) hj
  · skip
    obtain ⟨hz1, hz3⟩ := hI0
    dsimp only at hz1 hz3
    have hzl := exT_len hi p.ts hz1
    have hml : (1000000 : Nat) ≤ maxLen := by simp only [maxLen]; omega
    obtain ⟨hz4, hz5, hz6, hz7, hz8⟩ := hz3
    cases hd1 : (decide ((i : Int) < (p.ts.length : Int))) with
    | false =>
      have hp1 := of_decide_eq_false hd1
      exfalso
      omega
    | true =>
      have hp1 := of_decide_eq_true hd1
      have hltq : i < p.ts.length := by omega
      obtain ⟨beq, oeq, hbeq, hcq⟩ := hp.tk (by intro h; rw [h] at hltq; cases hltq)
      have hcq := hcq i hltq
      refine run_auto [(47, .bool true)] 11 [true] [] [4, 8, 9, 44, 45, 46] [0, 1, 2, 3, 4] (st' := ⟨[(4, pA b1), (8, pA b3), (9, .func (.func 69) #[] #[pA b2]), (44, .slice p.ta p.ts.length p.tc), (45, iV (p.ts.length : Int)), (46, iV (i : Int))], [(gt, cO ((exT hi p.ts i).flatMap tcR ++ st) 61), (b6, cO ((((((([] : List Bk) ++ p.bs).set b ((endV hi ((elB p.bs b).1, (elB p.bs b).2.1)), (endV hi ((elB p.bs b).1, (elB p.bs b).2.1)), (elB (([] : List Bk) ++ p.bs) b).2.2))).set b ((elB ((([] : List Bk) ++ p.bs).set b ((endV hi ((elB p.bs b).1, (elB p.bs b).2.1)), (endV hi ((elB p.bs b).1, (elB p.bs b).2.1)), (elB (([] : List Bk) ++ p.bs) b).2.2)) b).1, (elB ((([] : List Bk) ++ p.bs).set b ((endV hi ((elB p.bs b).1, (elB p.bs b).2.1)), (endV hi ((elB p.bs b).1, (elB p.bs b).2.1)), (elB (([] : List Bk) ++ p.bs) b).2.2)) b).2.1, k, k, (elB ((([] : List Bk) ++ p.bs).set b ((endV hi ((elB p.bs b).1, (elB p.bs b).2.1)), (endV hi ((elB p.bs b).1, (elB p.bs b).2.1)), (elB (([] : List Bk) ++ p.bs) b).2.2)) b).2.2.2.2))).flatMap bkR ++ sp6) 54), (b3, aO #[.slice none 0 0, iV 0, iV 0, .slice none 0 0] 33), (b2, aO #[.bool hi] 4), (b1, aO #[sV b6 (0 + p.bs.length) cap6, iV p.near, iV p.last, sV gt i ct] 33)]⟩) (acc := [(.bool true, .bool true), (.bool (decide ((i : Int) < (p.ts.length : Int))), .bool true)]) (by kernel_rfl) (by kernel_rfl) ⟨rfl, (bo hd1), trivial⟩ ?_
      refine run_v (Instr.indexAt 31 (.slice p.ta p.ts.length p.tc) (iV (i : Int)) >>= fun v => pure (Next.value v)) (some 48) (.pointer (some ⟨beq, oeq + i * 4, none⟩)) (by kernel_rfl) (fun w1 k1 h1 => (by rw [hbeq]; exact idx_off (e := 61) (n := 4) (by kernel_rfl) (by kernel_rfl) beq oeq p.ts.length p.tc .i64 i hltq (oeq + i * 4) (by omega) w1)) ?_
      refine run_v (Instr.loadAt 61 (.pointer (some ⟨beq, oeq + i * 4, none⟩)) >>= fun v => pure (Next.value v)) (some 49) (.agg #[iV (elT p.ts i).1, iV (elT p.ts i).2.1, iV (elT p.ts i).2.2.1, iV (elT p.ts i).2.2.2]) (by kernel_rfl) (fun w1 k1 h1 => load_in (off := 0) k1 (fun h => h) [iV (elT p.ts i).1, iV (elT p.ts i).2.1, iV (elT p.ts i).2.2.1, iV (elT p.ts i).2.2.2] (c4 hcq.1 hcq.2.1 hcq.2.2.1 hcq.2.2.2) (by kernel_rfl)) ?_
      refine run_new (aO #[iV 0, iV 0, iV 0, iV 0] 61) (fun b8 => pA b8) (some 13) (fun _ => by kernel_rfl) (fun b8 hb8 => ?_)
      refine run_auto [] 7 [] [0, 0] [4, 8, 9, 44, 45, 46, 13, 50, 52] [0, 1, 2, 3, 4, 5] (st' := ⟨[(4, pA b1), (8, pA b3), (9, .func (.func 69) #[] #[pA b2]), (44, .slice p.ta p.ts.length p.tc), (45, iV (p.ts.length : Int)), (46, iV (i : Int)), (13, pA b8), (50, .func (.func 69) #[] #[pA b2]), (52, .agg #[iV (elT p.ts i).2.2.1, iV (elT p.ts i).2.2.2])], [(b8, aO #[iV (elT p.ts i).1, iV (elT p.ts i).2.1, iV (elT p.ts i).2.2.1, iV (elT p.ts i).2.2.2] 61), (gt, cO ((exT hi p.ts i).flatMap tcR ++ st) 61), (b6, cO ((((((([] : List Bk) ++ p.bs).set b ((endV hi ((elB p.bs b).1, (elB p.bs b).2.1)), (endV hi ((elB p.bs b).1, (elB p.bs b).2.1)), (elB (([] : List Bk) ++ p.bs) b).2.2))).set b ((elB ((([] : List Bk) ++ p.bs).set b ((endV hi ((elB p.bs b).1, (elB p.bs b).2.1)), (endV hi ((elB p.bs b).1, (elB p.bs b).2.1)), (elB (([] : List Bk) ++ p.bs) b).2.2)) b).1, (elB ((([] : List Bk) ++ p.bs).set b ((endV hi ((elB p.bs b).1, (elB p.bs b).2.1)), (endV hi ((elB p.bs b).1, (elB p.bs b).2.1)), (elB (([] : List Bk) ++ p.bs) b).2.2)) b).2.1, k, k, (elB ((([] : List Bk) ++ p.bs).set b ((endV hi ((elB p.bs b).1, (elB p.bs b).2.1)), (endV hi ((elB p.bs b).1, (elB p.bs b).2.1)), (elB (([] : List Bk) ++ p.bs) b).2.2)) b).2.2.2.2))).flatMap bkR ++ sp6) 54), (b3, aO #[.slice none 0 0, iV 0, iV 0, .slice none 0 0] 33), (b2, aO #[.bool hi] 4), (b1, aO #[sV b6 (0 + p.bs.length) cap6, iV p.near, iV p.last, sV gt i ct] 33)]⟩) (acc := [(pA b8, pA b8), (pA b8, pA b8)]) (by kernel_rfl) (by kernel_rfl) ⟨rfl, rfl, trivial⟩ ?_
      refine run_ret1 69 #[.agg #[iV (elT p.ts i).2.2.1, iV (elT p.ts i).2.2.2], pA b2] (some 53) (.agg #[iV (endV hi (elT p.ts i).2.2), iV (endV hi (elT p.ts i).2.2)]) (by kernel_rfl) (fun w1 k1 h1 => end_any (elT p.ts i).2.2.1 (elT p.ts i).2.2.2 hi b2 w1 (h1 (b2, aO #[.bool hi] 4) (List.mem_of_getElem? (i := 4) (by kernel_rfl)))) ?_
      refine run_auto [] 7 [] [0, 5, 0] [4, 8, 9, 44, 45, 46, 56, 57] [1, 2, 3, 4, 5] (st' := ⟨[(4, pA b1), (8, pA b3), (9, .func (.func 69) #[] #[pA b2]), (44, .slice p.ta p.ts.length p.tc), (45, iV (p.ts.length : Int)), (46, iV (i : Int)), (56, sV gt i ct), (57, .agg #[iV (elT p.ts i).1, iV (elT p.ts i).2.1, iV (endV hi (elT p.ts i).2.2), iV (endV hi (elT p.ts i).2.2)])], [(gt, cO ((exT hi p.ts i).flatMap tcR ++ st) 61), (b6, cO ((((((([] : List Bk) ++ p.bs).set b ((endV hi ((elB p.bs b).1, (elB p.bs b).2.1)), (endV hi ((elB p.bs b).1, (elB p.bs b).2.1)), (elB (([] : List Bk) ++ p.bs) b).2.2))).set b ((elB ((([] : List Bk) ++ p.bs).set b ((endV hi ((elB p.bs b).1, (elB p.bs b).2.1)), (endV hi ((elB p.bs b).1, (elB p.bs b).2.1)), (elB (([] : List Bk) ++ p.bs) b).2.2)) b).1, (elB ((([] : List Bk) ++ p.bs).set b ((endV hi ((elB p.bs b).1, (elB p.bs b).2.1)), (endV hi ((elB p.bs b).1, (elB p.bs b).2.1)), (elB (([] : List Bk) ++ p.bs) b).2.2)) b).2.1, k, k, (elB ((([] : List Bk) ++ p.bs).set b ((endV hi ((elB p.bs b).1, (elB p.bs b).2.1)), (endV hi ((elB p.bs b).1, (elB p.bs b).2.1)), (elB (([] : List Bk) ++ p.bs) b).2.2)) b).2.2.2.2))).flatMap bkR ++ sp6) 54), (b3, aO #[.slice none 0 0, iV 0, iV 0, .slice none 0 0] 33), (b2, aO #[.bool hi] 4), (b1, aO #[sV b6 (0 + p.bs.length) cap6, iV p.near, iV p.last, sV gt i ct] 33)]⟩) (acc := [(pA b8, pA b8), (pA b1, pA b1), (pA b8, pA b8)]) (by kernel_rfl) (by kernel_rfl) ⟨rfl, rfl, rfl, trivial⟩ ?_
      refine run_new (aO #[iV (elT p.ts i).1, iV (elT p.ts i).2.1, iV (endV hi (elT p.ts i).2.2), iV (endV hi (elT p.ts i).2.2)] 61) (fun b9 => sV b9 1 1) (some 58) (fun _ => by kernel_rfl) (fun b9 hb9 => ?_)
      refine run_app (t := 31) (ty := 31) (e := 61) (n := 4) (z := (.agg #[iV 0, iV 0, iV 0, iV 0])) (by kernel_rfl) (by kernel_rfl) (by kernel_rfl) rfl (by kernel_rfl) tcR tcR_len tcR_one (some 59) 1 gt i 1 ct 1 (exT hi p.ts i) ([((elT p.ts i).1, (elT p.ts i).2.1, (endV hi (elT p.ts i).2.2), (endV hi (elT p.ts i).2.2))] : List Tc) st ⟨b9, 0, none⟩ (by first | rfl | omega | (simp; done) | (simp; omega)) (by first | rfl | omega | (simp; done) | (simp; omega)) (by kernel_rfl) (by kernel_rfl) hz6 hz7 (fun w1 k1 h1 jq uq hu => by rw [add_none, Nat.zero_add]; exact cells_of_heap (h1 (b9, aO #[iV (elT p.ts i).1, iV (elT p.ts i).2.1, iV (endV hi (elT p.ts i).2.2), iV (endV hi (elT p.ts i).2.2)] 61) (List.mem_of_getElem? (i := 0) (by kernel_rfl))) jq uq hu) (by omega) hz8 (fun b10 cap10 sp10 hb10 hqb10 hmb10 hlb10 => ?_)
      refine run_auto [(61, iV ((i + 1 : Nat) : Int))] 8 [] [5] [4, 8, 9, 44, 45, 46] [0, 2, 3, 4, 5] (st' := ⟨[(4, pA b1), (8, pA b3), (9, .func (.func 69) #[] #[pA b2]), (44, .slice p.ta p.ts.length p.tc), (45, iV (p.ts.length : Int)), (46, iV ((i + 1 : Nat) : Int))], [(b10, cO ((exT hi p.ts i ++ ([((elT p.ts i).1, (elT p.ts i).2.1, (endV hi (elT p.ts i).2.2), (endV hi (elT p.ts i).2.2))] : List Tc)).flatMap tcR ++ sp10) 61), (b6, cO ((((((([] : List Bk) ++ p.bs).set b ((endV hi ((elB p.bs b).1, (elB p.bs b).2.1)), (endV hi ((elB p.bs b).1, (elB p.bs b).2.1)), (elB (([] : List Bk) ++ p.bs) b).2.2))).set b ((elB ((([] : List Bk) ++ p.bs).set b ((endV hi ((elB p.bs b).1, (elB p.bs b).2.1)), (endV hi ((elB p.bs b).1, (elB p.bs b).2.1)), (elB (([] : List Bk) ++ p.bs) b).2.2)) b).1, (elB ((([] : List Bk) ++ p.bs).set b ((endV hi ((elB p.bs b).1, (elB p.bs b).2.1)), (endV hi ((elB p.bs b).1, (elB p.bs b).2.1)), (elB (([] : List Bk) ++ p.bs) b).2.2)) b).2.1, k, k, (elB ((([] : List Bk) ++ p.bs).set b ((endV hi ((elB p.bs b).1, (elB p.bs b).2.1)), (endV hi ((elB p.bs b).1, (elB p.bs b).2.1)), (elB (([] : List Bk) ++ p.bs) b).2.2)) b).2.2.2.2))).flatMap bkR ++ sp6) 54), (b3, aO #[.slice none 0 0, iV 0, iV 0, .slice none 0 0] 33), (b2, aO #[.bool hi] 4), (b1, aO #[sV b6 (0 + p.bs.length) cap6, iV p.near, iV p.last, sV b10 (i + 1) cap10] 33)]⟩) (acc := [(iV (IntKind.i64.wrap ((i : Int) + 1)), iV ((i + 1 : Nat) : Int)), (pA b1, pA b1)]) (by kernel_rfl) (by kernel_rfl) ⟨(wr (by omega) (by omega)), rfl, trivial⟩ ?_
      have hst := exT_next hi (L := p.ts) (i := i) (by omega)
      have hj := hJ0 ((i + 1, some (b10, cap10, sp10))) (⟨by dsimp only; omega, by dsimp only; omega, hqb10, hmb10, by dsimp only; rw [hst]; exact hlb10, hb10⟩) (by dsimp only; omega)
      dsimp only at hj
      rw [hst] at hj
      exact run_round (by kernel_rfl) hj

set_option maxRecDepth 100000 in
set_option maxHeartbeats 4000000 in
theorem exact1_any (p : Sb) (b : Nat) (k : Int) (hi : Bool) (bq0 oq0 : Nat) (w : World) (hp : p.In w) (hea : p.ba = some ⟨bq0, oq0, none⟩) (hbl : b < p.bs.length) (h4 : p.bs.length ≤ 4) (h8 : p.ts.length ≤ 8) (hn0 : 0 < p.ts.length) : Calls Try.prog 27 #[.agg #[.slice (some ⟨bq0, oq0, none⟩) p.bs.length p.bc, .int .i64 p.near, .int .i64 p.last, .slice p.ta p.ts.length p.tc], .int .i64 (b : Int), .int .i64 k, .bool hi] w (NwL (α := Nat × Nat × List Value × Nat × Nat × List Value) (fun x => .agg #[.slice (some ⟨(x.1), 0, none⟩) ((p.bs.set b (exB hi k (elB p.bs b))).length) (x.2.1), .int .i64 p.near, .int .i64 p.last, .slice (some ⟨(x.2.2.2.1), 0, none⟩) ((p.ts.map (exTc hi)).length) (x.2.2.2.2.1)]) (fun x => [((x.2.2.2.1), .cells ((p.ts.map (exTc hi)).flatMap tcR ++ (x.2.2.2.2.2)).toArray 61 (0, 0)), ((x.1), .cells ((p.bs.set b (exB hi k (elB p.bs b))).flatMap bkR ++ (x.2.2.1)).toArray 54 (0, 0))]) (fun _ => True) w) := by
  obtain ⟨bz, oz, hbz, hcz⟩ := hp.bk (by intro h; rw [h] at hbl; cases hbl)
  have hcq := hcz b hbl
  rw [hea] at hbz
  injection hbz with hbz
  injection hbz with e1 e2
  subst e1; subst e2
  have hlt0 := hp.lt
  have hlb := hp.lb
  simp only [maxLen] at hlt0 hlb
  have hce : ∀ w1, Kept (fun _ => False) w w1 → ∀ j u, (p.bs.flatMap bkR)[j]? = some u → w1.cell? ((⟨bq0, oq0, none⟩ : Addr).add j) = some u := fun w1 k1 j u hu => by
      obtain ⟨b2, o2, h1, h2⟩ := (hp.bk.keep (k1.keeps (fun _ h => h))).flat (by intro h; rw [h] at hbl; cases hbl)
      rw [hea] at h1
      injection h1 with h1
      injection h1 with e1 e2
      subst e1; subst e2
      exact h2 j u hu
  refine calls_run (fn := f27) (c := (f27.body).getD .skip) [.agg #[.slice (some ⟨bq0, oq0, none⟩) p.bs.length p.bc, .int .i64 p.near, .int .i64 p.last, .slice p.ta p.ts.length p.tc], .int .i64 (b : Int), .int .i64 k, .bool hi] func27 (by kernel_rfl) (fun _ => False) [] (fun _ h => by cases h) (List.Pairwise.nil) 63 (by kernel_rfl) (by simp) ?_
  refine run_auto [] 2 [] [] [0, 1, 2, 3] [] (st' := ⟨[(0, .agg #[.slice (some ⟨bq0, oq0, none⟩) p.bs.length p.bc, iV p.near, iV p.last, .slice p.ta p.ts.length p.tc]), (1, iV (b : Int)), (2, iV k), (3, .bool hi)], []⟩) (acc := []) (by kernel_rfl) (by kernel_rfl) trivial ?_
  refine run_new (aO #[.slice (some ⟨bq0, oq0, none⟩) p.bs.length p.bc, iV p.near, iV p.last, .slice p.ta p.ts.length p.tc] 33) (fun b1 => pA b1) (some 4) (fun _ => by kernel_rfl) (fun b1 hb1 => ?_)
  refine run_new (aO #[.bool hi] 4) (fun b2 => pA b2) (some 7) (fun _ => by kernel_rfl) (fun b2 hb2 => ?_)
  refine run_new (aO #[.slice none 0 0, iV 0, iV 0, .slice none 0 0] 33) (fun b3 => pA b3) (some 8) (fun _ => by kernel_rfl) (fun b3 hb3 => ?_)
  refine run_auto [] 7 [] [] [1, 2, 4, 8, 9] [0, 1, 2] (st' := ⟨[(1, iV (b : Int)), (2, iV k), (4, pA b1), (8, pA b3), (9, .func (.func 69) #[] #[pA b2])], [(b3, aO #[.slice none 0 0, iV 0, iV 0, .slice none 0 0] 33), (b2, aO #[.bool hi] 4), (b1, aO #[.slice (some ⟨bq0, oq0, none⟩) p.bs.length p.bc, iV p.near, iV p.last, .slice p.ta p.ts.length p.tc] 33)]⟩) (acc := []) (by kernel_rfl) (by kernel_rfl) trivial ?_
  refine drawW 6 [{ val := fun _ => pA b1, slots := [4] },
      { val := fun _ => .slice (some ⟨bq0, oq0, none⟩) p.bs.length p.bc, slots := [15], reads := [2] },
      { val := fun _ => .pointer (some ⟨b1, 3, none⟩), slots := [4] },
      { val := fun _ => .slice p.ta p.ts.length p.tc, slots := [17], reads := [2] },
      { val := fun _ => .slice (some ⟨bq0, oq0, none⟩) p.bs.length p.bc, slots := [16] },
      { val := fun _ => .slice p.ta p.ts.length p.tc, slots := [18] }] [[], [0], [], [2], [0, 1], [0, 1, 2, 3, 4]] (by kernel_rfl) (by kernel_rfl) (by kernel_rfl) (by kernel_rfl) [1, 2, 4, 8, 9, 10, 11] [0, 1, 2] (by kernel_rfl)
      ⟨⟨⟨⟨⟨⟨trivial,
      tri_quietW (fun β => []) [] [] (fun β => []) (by kernel_rfl) (fun β extra => by kernel_rfl) (by kernel_rfl) (fun β => trivial)⟩,
      tri_quietW (fun β => []) [0] [0] (fun β => [(pA b1, pA b1)]) (by kernel_rfl) (fun β extra => by kernel_rfl) (by kernel_rfl) (fun β => ⟨rfl, trivial⟩)⟩,
      tri_quietW (fun β => []) [] [] (fun β => []) (by kernel_rfl) (fun β extra => by kernel_rfl) (by kernel_rfl) (fun β => trivial)⟩,
      tri_quietW (fun β => []) [0] [0] (fun β => [(pA b1, pA b1)]) (by kernel_rfl) (fun β extra => by kernel_rfl) (by kernel_rfl) (fun β => ⟨rfl, trivial⟩)⟩,
      tri_quietW (fun β => []) [] [] (fun β => []) (by kernel_rfl) (fun β extra => by kernel_rfl) (by kernel_rfl) (fun β => trivial)⟩,
      tri_quietW (fun β => []) [] [] (fun β => []) (by kernel_rfl) (fun β extra => by kernel_rfl) (by kernel_rfl) (fun β => trivial)⟩
      (fun β => ⟨[(1, iV (b : Int)), (2, iV k), (4, pA b1), (8, pA b3), (9, .func (.func 69) #[] #[pA b2]), (10, .slice (some ⟨bq0, oq0, none⟩) p.bs.length p.bc), (11, .slice p.ta p.ts.length p.tc)], [(b3, aO #[.slice none 0 0, iV 0, iV 0, .slice none 0 0] 33), (b2, aO #[.bool hi] 4), (b1, aO #[.slice (some ⟨bq0, oq0, none⟩) p.bs.length p.bc, iV p.near, iV p.last, .slice p.ta p.ts.length p.tc] 33)]⟩) (fun β => by kernel_rfl) (fun β4 => ?_)
  refine run_auto [] 2 [] [] [1, 2, 4, 8, 9, 10, 11] [0, 1, 2] (st' := ⟨[(1, iV (b : Int)), (2, iV k), (4, pA b1), (8, pA b3), (9, .func (.func 69) #[] #[pA b2]), (10, .slice (some ⟨bq0, oq0, none⟩) p.bs.length p.bc), (11, .slice p.ta p.ts.length p.tc)], [(b3, aO #[.slice none 0 0, iV 0, iV 0, .slice none 0 0] 33), (b2, aO #[.bool hi] 4), (b1, aO #[.slice (some ⟨bq0, oq0, none⟩) p.bs.length p.bc, iV p.near, iV p.last, .slice p.ta p.ts.length p.tc] 33)]⟩) (acc := []) (by kernel_rfl) (by kernel_rfl) trivial ?_
  refine run_new (aO #[] 54) (fun b5 => sV b5 0 0) (some 19) (fun _ => by kernel_rfl) (fun b5 hb5 => ?_)
  refine run_auto [] 1 [] [] [1, 2, 4, 8, 9, 10, 11, 19, 20] [0, 1, 2, 3] (st' := ⟨[(1, iV (b : Int)), (2, iV k), (4, pA b1), (8, pA b3), (9, .func (.func 69) #[] #[pA b2]), (10, .slice (some ⟨bq0, oq0, none⟩) p.bs.length p.bc), (11, .slice p.ta p.ts.length p.tc), (19, sV b5 0 0), (20, .slice (some ⟨bq0, oq0, none⟩) p.bs.length p.bc)], [(b5, aO #[] 54), (b3, aO #[.slice none 0 0, iV 0, iV 0, .slice none 0 0] 33), (b2, aO #[.bool hi] 4), (b1, aO #[.slice (some ⟨bq0, oq0, none⟩) p.bs.length p.bc, iV p.near, iV p.last, .slice p.ta p.ts.length p.tc] 33)]⟩) (acc := []) (by kernel_rfl) (by kernel_rfl) trivial ?_
  refine run_app (t := 30) (ty := 30) (e := 54) (n := 6) (z := (.agg #[iV 0, iV 0, iV 0, iV 0, iV 0, iV 0])) (by kernel_rfl) (by kernel_rfl) (by kernel_rfl) rfl (by kernel_rfl) bkR bkR_len bkR_one (some 21) 0 b5 0 p.bs.length 0 p.bc ([] : List Bk) p.bs ([]) ⟨bq0, oq0, none⟩ (by first | rfl | omega | (simp; done) | (simp; omega)) (by first | rfl | omega | (simp; done) | (simp; omega)) (by kernel_rfl) (by kernel_rfl) (by simp only [maxLen]; omega) rfl (fun w1 k1 h1 jq uq hu => hce w1 k1 jq uq hu) (by omega) hb5 (fun b6 cap6 sp6 hb6 hqb6 hmb6 hlb6 => ?_)
  refine run_auto [] 6 [] [3, 3] [1, 2, 4, 8, 9, 10, 11] [0, 1, 2, 3] (st' := ⟨[(1, iV (b : Int)), (2, iV k), (4, pA b1), (8, pA b3), (9, .func (.func 69) #[] #[pA b2]), (10, .slice (some ⟨bq0, oq0, none⟩) p.bs.length p.bc), (11, .slice p.ta p.ts.length p.tc)], [(b6, cO ((([] : List Bk) ++ p.bs).flatMap bkR ++ sp6) 54), (b3, aO #[.slice none 0 0, iV 0, iV 0, .slice none 0 0] 33), (b2, aO #[.bool hi] 4), (b1, aO #[sV b6 (0 + p.bs.length) cap6, iV p.near, iV p.last, .slice none 0 0] 33)]⟩) (acc := [(pA b1, pA b1), (pA b1, pA b1)]) (by kernel_rfl) (by kernel_rfl) ⟨rfl, rfl, trivial⟩ ?_
  refine drawW 22 [{ val := fun _ => pA b1, slots := [4] },
      { val := fun _ => sV b6 (0 + p.bs.length) cap6, slots := [24], reads := [3] },
      { val := fun _ => iV (b : Int), slots := [1] },
      { val := fun _ => pA b1, slots := [4] },
      { val := fun _ => sV b6 (0 + p.bs.length) cap6, slots := [27], reads := [3] },
      { val := fun _ => iV (b : Int), slots := [1] },
      { val := fun _ => .func (.func 69) #[] #[pA b2], slots := [9] },
      { val := fun _ => .slice (some ⟨bq0, oq0, none⟩) p.bs.length p.bc, slots := [10] },
      { val := fun _ => iV (b : Int), slots := [1] },
      { val := fun _ => .pointer (some ⟨bq0, oq0 + b * 6, none⟩), slots := [31, 32] },
      { val := fun _ => .pointer (some ⟨bq0, oq0 + b * 6, none⟩), slots := [33] },
      { val := fun _ => .agg #[iV (elB p.bs b).1, iV (elB p.bs b).2.1], slots := [34] },
      { val := fun _ => .agg #[iV (endV hi ((elB p.bs b).1, (elB p.bs b).2.1)), iV (endV hi ((elB p.bs b).1, (elB p.bs b).2.1))], slots := [30, 35], reads := [2] },
      { val := fun _ => iV k, slots := [2] },
      { val := fun _ => iV k, slots := [2] },
      { val := fun _ => .agg #[iV k, iV k], slots := [37, 38] },
      { val := fun _ => .pointer (some ⟨b6, b * 6, none⟩), slots := [25, 26] },
      { val := fun _ => .pointer (some ⟨b6, b * 6, none⟩), slots := [40] },
      { upd := [(0, fun _ => cO ((((([] : List Bk) ++ p.bs).set b ((endV hi ((elB p.bs b).1, (elB p.bs b).2.1)), (endV hi ((elB p.bs b).1, (elB p.bs b).2.1)), (elB (([] : List Bk) ++ p.bs) b).2.2))).flatMap bkR ++ sp6) 54)], slots := [36, 41], reads := [0] },
      { val := fun _ => .pointer (some ⟨b6, b * 6, none⟩), slots := [28, 29] },
      { val := fun _ => .pointer (some ⟨b6, b * 6 + 2, none⟩), slots := [42] },
      { upd := [(0, fun _ => cO ((((((([] : List Bk) ++ p.bs).set b ((endV hi ((elB p.bs b).1, (elB p.bs b).2.1)), (endV hi ((elB p.bs b).1, (elB p.bs b).2.1)), (elB (([] : List Bk) ++ p.bs) b).2.2))).set b ((elB ((([] : List Bk) ++ p.bs).set b ((endV hi ((elB p.bs b).1, (elB p.bs b).2.1)), (endV hi ((elB p.bs b).1, (elB p.bs b).2.1)), (elB (([] : List Bk) ++ p.bs) b).2.2)) b).1, (elB ((([] : List Bk) ++ p.bs).set b ((endV hi ((elB p.bs b).1, (elB p.bs b).2.1)), (endV hi ((elB p.bs b).1, (elB p.bs b).2.1)), (elB (([] : List Bk) ++ p.bs) b).2.2)) b).2.1, k, k, (elB ((([] : List Bk) ++ p.bs).set b ((endV hi ((elB p.bs b).1, (elB p.bs b).2.1)), (endV hi ((elB p.bs b).1, (elB p.bs b).2.1)), (elB (([] : List Bk) ++ p.bs) b).2.2)) b).2.2.2.2))).flatMap bkR ++ sp6) 54)], slots := [39, 43], reads := [0] }] [[], [0], [], [], [3], [], [], [], [], [7, 8], [7, 8, 9], [7, 8, 9, 10], [6, 7, 8, 9, 10, 11], [], [], [6, 7, 8, 9, 10, 11, 12, 13, 14], [0, 1, 2, 6, 7, 8, 9, 10, 11, 12, 13, 14, 15], [0, 1, 2, 6, 7, 8, 9, 10, 11, 12, 13, 14, 15, 16], [0, 1, 2, 6, 7, 8, 9, 10, 11, 12, 13, 14, 15, 16, 17], [0, 1, 2, 3, 4, 5, 6, 7, 8, 9, 10, 11, 12, 13, 14, 15, 16, 17, 18], [0, 1, 2, 3, 4, 5, 6, 7, 8, 9, 10, 11, 12, 13, 14, 15, 16, 17, 18, 19], [0, 1, 2, 3, 4, 5, 6, 7, 8, 9, 10, 11, 12, 13, 14, 15, 16, 17, 18, 19, 20]] (by kernel_rfl) (by kernel_rfl) (by kernel_rfl) (by kernel_rfl) [4, 8, 9, 11] [0, 1, 2, 3] (by kernel_rfl)
      ⟨⟨⟨⟨⟨⟨⟨⟨⟨⟨⟨⟨⟨⟨⟨⟨⟨⟨⟨⟨⟨⟨trivial,
      tri_quietW (fun β => []) [] [] (fun β => []) (by kernel_rfl) (fun β extra => by kernel_rfl) (by kernel_rfl) (fun β => trivial)⟩,
      tri_quietW (fun β => []) [0] [0] (fun β => [(pA b1, pA b1)]) (by kernel_rfl) (fun β extra => by kernel_rfl) (by kernel_rfl) (fun β => ⟨rfl, trivial⟩)⟩,
      tri_quietW (fun β => []) [] [] (fun β => []) (by kernel_rfl) (fun β extra => by kernel_rfl) (by kernel_rfl) (fun β => trivial)⟩,
      tri_quietW (fun β => []) [] [] (fun β => []) (by kernel_rfl) (fun β extra => by kernel_rfl) (by kernel_rfl) (fun β => trivial)⟩,
      tri_quietW (fun β => []) [0] [0] (fun β => [(pA b1, pA b1)]) (by kernel_rfl) (fun β extra => by kernel_rfl) (by kernel_rfl) (fun β => ⟨rfl, trivial⟩)⟩,
      tri_quietW (fun β => []) [] [] (fun β => []) (by kernel_rfl) (fun β extra => by kernel_rfl) (by kernel_rfl) (fun β => trivial)⟩,
      tri_quietW (fun β => []) [] [] (fun β => []) (by kernel_rfl) (fun β extra => by kernel_rfl) (by kernel_rfl) (fun β => trivial)⟩,
      tri_quietW (fun β => []) [] [] (fun β => []) (by kernel_rfl) (fun β extra => by kernel_rfl) (by kernel_rfl) (fun β => trivial)⟩,
      tri_quietW (fun β => []) [] [] (fun β => []) (by kernel_rfl) (fun β extra => by kernel_rfl) (by kernel_rfl) (fun β => trivial)⟩,
      tri_vVW (fun β => .pointer (some ⟨bq0, oq0 + b * 6, none⟩)) (fun β => by kernel_rfl) (fun β => (Instr.indexAt 30 (.slice (some ⟨bq0, oq0, none⟩) p.bs.length p.bc) (iV (b : Int)) >>= fun v => pure (Next.value v))) (by kernel_rfl) (fun β extra => by kernel_rfl) (fun β => by kernel_rfl) (fun β w1 k1 h1 => (by rw [show (some (⟨bq0, oq0, none⟩ : Addr)) = some ⟨bq0, oq0, none⟩ from rfl]; exact idx_off (e := 54) (n := 6) (by kernel_rfl) (by kernel_rfl) bq0 oq0 p.bs.length p.bc .i64 b hbl (oq0 + b * 6) (by omega) w1))⟩,
      tri_quietW (fun β => []) [] [] (fun β => []) (by kernel_rfl) (fun β extra => by kernel_rfl) (by kernel_rfl) (fun β => trivial)⟩,
      tri_vVW (fun β => .agg #[iV (elB p.bs b).1, iV (elB p.bs b).2.1]) (fun β => by kernel_rfl) (fun β => (Instr.loadAt 23 (.pointer (some ⟨bq0, oq0 + b * 6, none⟩)) >>= fun v => pure (Next.value v))) (by kernel_rfl) (fun β extra => by kernel_rfl) (fun β => by kernel_rfl) (fun β w1 k1 h1 => load_in (off := 0) k1 (fun h => h) [iV (elB p.bs b).1, iV (elB p.bs b).2.1, iV (elB p.bs b).2.2.1, iV (elB p.bs b).2.2.2.1, iV (elB p.bs b).2.2.2.2.1, iV (elB p.bs b).2.2.2.2.2] (c6 hcq.1 hcq.2.1 hcq.2.2.1 hcq.2.2.2.1 hcq.2.2.2.2.1 hcq.2.2.2.2.2) (by kernel_rfl))⟩,
      tri_callVW (fun β => .agg #[iV (endV hi ((elB p.bs b).1, (elB p.bs b).2.1)), iV (endV hi ((elB p.bs b).1, (elB p.bs b).2.1))]) (fun β => by kernel_rfl) 69 (fun β => #[.agg #[iV (elB p.bs b).1, iV (elB p.bs b).2.1], pA b2]) (by kernel_rfl) (fun β extra => by kernel_rfl) (fun β => by kernel_rfl) (fun β w1 k1 h1 => end_any (elB p.bs b).1 (elB p.bs b).2.1 hi b2 w1 (h1 (b2, aO #[.bool hi] 4) (List.mem_of_getElem? (i := 0) (by kernel_rfl))))⟩,
      tri_quietW (fun β => []) [] [] (fun β => []) (by kernel_rfl) (fun β extra => by kernel_rfl) (by kernel_rfl) (fun β => trivial)⟩,
      tri_quietW (fun β => []) [] [] (fun β => []) (by kernel_rfl) (fun β extra => by kernel_rfl) (by kernel_rfl) (fun β => trivial)⟩,
      tri_callVW (fun β => .agg #[iV k, iV k]) (fun β => by kernel_rfl) 10 (fun β => #[iV k, iV k]) (by kernel_rfl) (fun β extra => by kernel_rfl) (fun β => by kernel_rfl) (fun β w1 k1 h1 => span_any k k w1)⟩,
      tri_vVW (fun β => .pointer (some ⟨b6, b * 6, none⟩)) (fun β => by kernel_rfl) (fun β => (Instr.indexAt 30 (sV b6 (0 + p.bs.length) cap6) (iV (b : Int)) >>= fun v => pure (Next.value v))) (by kernel_rfl) (fun β extra => by kernel_rfl) (fun β => by kernel_rfl) (fun β w1 k1 h1 => idx_off (e := 54) (n := 6) (by kernel_rfl) (by kernel_rfl) b6 (0) (0 + p.bs.length) cap6 .i64 b (by omega) (b * 6) (by omega) w1)⟩,
      tri_quietW (fun β => []) [] [] (fun β => []) (by kernel_rfl) (fun β extra => by kernel_rfl) (by kernel_rfl) (fun β => trivial)⟩,
      tri_storeW (fun β => b6) (b * 6) 23 (fun β => .agg #[iV (endV hi ((elB p.bs b).1, (elB p.bs b).2.1)), iV (endV hi ((elB p.bs b).1, (elB p.bs b).2.1))]) ((([] : List Bk) ++ p.bs).flatMap bkR ++ sp6) ((((([] : List Bk) ++ p.bs).set b ((endV hi ((elB p.bs b).1, (elB p.bs b).2.1)), (endV hi ((elB p.bs b).1, (elB p.bs b).2.1)), (elB (([] : List Bk) ++ p.bs) b).2.2))).flatMap bkR ++ sp6) 54 (by kernel_rfl) (by kernel_rfl) (fun β extra => by kernel_rfl) (fun β => by kernel_rfl) (fun β => by kernel_rfl) (fun β => flat_storeM (c := bkR) (n := 6) (m := 2) bkR_len (by kernel_rfl) (v := .agg #[iV (endV hi ((elB p.bs b).1, (elB p.bs b).2.1)), iV (endV hi ((elB p.bs b).1, (elB p.bs b).2.1))]) (vs := [iV (endV hi ((elB p.bs b).1, (elB p.bs b).2.1)), iV (endV hi ((elB p.bs b).1, (elB p.bs b).2.1))]) rfl rfl rfl (L := ([] : List Bk) ++ p.bs) (sp := sp6) (i := b) (k := 0) (x := ((endV hi ((elB p.bs b).1, (elB p.bs b).2.1)), (endV hi ((elB p.bs b).1, (elB p.bs b).2.1)), (elB (([] : List Bk) ++ p.bs) b).2.2)) (by first | omega | (simp; omega)) (by omega) (by rw [← elB_at (by first | omega | (simp; omega))]; rfl) (by omega))⟩,
      tri_vVW (fun β => .pointer (some ⟨b6, b * 6, none⟩)) (fun β => by kernel_rfl) (fun β => (Instr.indexAt 30 (sV b6 (0 + p.bs.length) cap6) (iV (b : Int)) >>= fun v => pure (Next.value v))) (by kernel_rfl) (fun β extra => by kernel_rfl) (fun β => by kernel_rfl) (fun β w1 k1 h1 => idx_off (e := 54) (n := 6) (by kernel_rfl) (by kernel_rfl) b6 (0) (0 + p.bs.length) cap6 .i64 b (by omega) (b * 6) (by omega) w1)⟩,
      tri_quietW (fun β => []) [] [] (fun β => []) (by kernel_rfl) (fun β extra => by kernel_rfl) (by kernel_rfl) (fun β => trivial)⟩,
      tri_storeW (fun β => b6) (b * 6 + 2) 23 (fun β => .agg #[iV k, iV k]) ((((([] : List Bk) ++ p.bs).set b ((endV hi ((elB p.bs b).1, (elB p.bs b).2.1)), (endV hi ((elB p.bs b).1, (elB p.bs b).2.1)), (elB (([] : List Bk) ++ p.bs) b).2.2))).flatMap bkR ++ sp6) ((((((([] : List Bk) ++ p.bs).set b ((endV hi ((elB p.bs b).1, (elB p.bs b).2.1)), (endV hi ((elB p.bs b).1, (elB p.bs b).2.1)), (elB (([] : List Bk) ++ p.bs) b).2.2))).set b ((elB ((([] : List Bk) ++ p.bs).set b ((endV hi ((elB p.bs b).1, (elB p.bs b).2.1)), (endV hi ((elB p.bs b).1, (elB p.bs b).2.1)), (elB (([] : List Bk) ++ p.bs) b).2.2)) b).1, (elB ((([] : List Bk) ++ p.bs).set b ((endV hi ((elB p.bs b).1, (elB p.bs b).2.1)), (endV hi ((elB p.bs b).1, (elB p.bs b).2.1)), (elB (([] : List Bk) ++ p.bs) b).2.2)) b).2.1, k, k, (elB ((([] : List Bk) ++ p.bs).set b ((endV hi ((elB p.bs b).1, (elB p.bs b).2.1)), (endV hi ((elB p.bs b).1, (elB p.bs b).2.1)), (elB (([] : List Bk) ++ p.bs) b).2.2)) b).2.2.2.2))).flatMap bkR ++ sp6) 54 (by kernel_rfl) (by kernel_rfl) (fun β extra => by kernel_rfl) (fun β => by kernel_rfl) (fun β => by kernel_rfl) (fun β => flat_storeM (c := bkR) (n := 6) (m := 2) bkR_len (by kernel_rfl) (v := .agg #[iV k, iV k]) (vs := [iV k, iV k]) rfl rfl rfl (L := ((([] : List Bk) ++ p.bs).set b ((endV hi ((elB p.bs b).1, (elB p.bs b).2.1)), (endV hi ((elB p.bs b).1, (elB p.bs b).2.1)), (elB (([] : List Bk) ++ p.bs) b).2.2))) (sp := sp6) (i := b) (k := 2) (x := ((elB ((([] : List Bk) ++ p.bs).set b ((endV hi ((elB p.bs b).1, (elB p.bs b).2.1)), (endV hi ((elB p.bs b).1, (elB p.bs b).2.1)), (elB (([] : List Bk) ++ p.bs) b).2.2)) b).1, (elB ((([] : List Bk) ++ p.bs).set b ((endV hi ((elB p.bs b).1, (elB p.bs b).2.1)), (endV hi ((elB p.bs b).1, (elB p.bs b).2.1)), (elB (([] : List Bk) ++ p.bs) b).2.2)) b).2.1, k, k, (elB ((([] : List Bk) ++ p.bs).set b ((endV hi ((elB p.bs b).1, (elB p.bs b).2.1)), (endV hi ((elB p.bs b).1, (elB p.bs b).2.1)), (elB (([] : List Bk) ++ p.bs) b).2.2)) b).2.2.2.2)) (by first | omega | (simp; omega)) (by omega) (by rw [← elB_at (by first | omega | (simp; omega))]; rfl) (by omega))⟩
      (fun β => ⟨[(4, pA b1), (8, pA b3), (9, .func (.func 69) #[] #[pA b2]), (11, .slice p.ta p.ts.length p.tc)], [(b6, cO ((((((([] : List Bk) ++ p.bs).set b ((endV hi ((elB p.bs b).1, (elB p.bs b).2.1)), (endV hi ((elB p.bs b).1, (elB p.bs b).2.1)), (elB (([] : List Bk) ++ p.bs) b).2.2))).set b ((elB ((([] : List Bk) ++ p.bs).set b ((endV hi ((elB p.bs b).1, (elB p.bs b).2.1)), (endV hi ((elB p.bs b).1, (elB p.bs b).2.1)), (elB (([] : List Bk) ++ p.bs) b).2.2)) b).1, (elB ((([] : List Bk) ++ p.bs).set b ((endV hi ((elB p.bs b).1, (elB p.bs b).2.1)), (endV hi ((elB p.bs b).1, (elB p.bs b).2.1)), (elB (([] : List Bk) ++ p.bs) b).2.2)) b).2.1, k, k, (elB ((([] : List Bk) ++ p.bs).set b ((endV hi ((elB p.bs b).1, (elB p.bs b).2.1)), (endV hi ((elB p.bs b).1, (elB p.bs b).2.1)), (elB (([] : List Bk) ++ p.bs) b).2.2)) b).2.2.2.2))).flatMap bkR ++ sp6) 54), (b3, aO #[.slice none 0 0, iV 0, iV 0, .slice none 0 0] 33), (b2, aO #[.bool hi] 4), (b1, aO #[sV b6 (0 + p.bs.length) cap6, iV p.near, iV p.last, .slice none 0 0] 33)]⟩) (fun β => by kernel_rfl) (fun β7 => ?_)
  refine run_auto [] 8 [] [] [4, 8, 9, 44, 45, 46] [0, 1, 2, 3] (st' := ⟨[(4, pA b1), (8, pA b3), (9, .func (.func 69) #[] #[pA b2]), (44, .slice p.ta p.ts.length p.tc), (45, iV (p.ts.length : Int)), (46, iV 0)], [(b6, cO ((((((([] : List Bk) ++ p.bs).set b ((endV hi ((elB p.bs b).1, (elB p.bs b).2.1)), (endV hi ((elB p.bs b).1, (elB p.bs b).2.1)), (elB (([] : List Bk) ++ p.bs) b).2.2))).set b ((elB ((([] : List Bk) ++ p.bs).set b ((endV hi ((elB p.bs b).1, (elB p.bs b).2.1)), (endV hi ((elB p.bs b).1, (elB p.bs b).2.1)), (elB (([] : List Bk) ++ p.bs) b).2.2)) b).1, (elB ((([] : List Bk) ++ p.bs).set b ((endV hi ((elB p.bs b).1, (elB p.bs b).2.1)), (endV hi ((elB p.bs b).1, (elB p.bs b).2.1)), (elB (([] : List Bk) ++ p.bs) b).2.2)) b).2.1, k, k, (elB ((([] : List Bk) ++ p.bs).set b ((endV hi ((elB p.bs b).1, (elB p.bs b).2.1)), (endV hi ((elB p.bs b).1, (elB p.bs b).2.1)), (elB (([] : List Bk) ++ p.bs) b).2.2)) b).2.2.2.2))).flatMap bkR ++ sp6) 54), (b3, aO #[.slice none 0 0, iV 0, iV 0, .slice none 0 0] 33), (b2, aO #[.bool hi] 4), (b1, aO #[sV b6 (0 + p.bs.length) cap6, iV p.near, iV p.last, .slice none 0 0] 33)]⟩) (acc := []) (by kernel_rfl) (by kernel_rfl) trivial ?_
  refine run_auto [] 0 [] [] [4, 8, 9, 44, 45, 46] [0, 1, 2, 3] (st' := ⟨[(4, pA b1), (8, pA b3), (9, .func (.func 69) #[] #[pA b2]), (44, .slice p.ta p.ts.length p.tc), (45, iV (p.ts.length : Int)), (46, iV 0)], [(b6, cO ((((((([] : List Bk) ++ p.bs).set b ((endV hi ((elB p.bs b).1, (elB p.bs b).2.1)), (endV hi ((elB p.bs b).1, (elB p.bs b).2.1)), (elB (([] : List Bk) ++ p.bs) b).2.2))).set b ((elB ((([] : List Bk) ++ p.bs).set b ((endV hi ((elB p.bs b).1, (elB p.bs b).2.1)), (endV hi ((elB p.bs b).1, (elB p.bs b).2.1)), (elB (([] : List Bk) ++ p.bs) b).2.2)) b).1, (elB ((([] : List Bk) ++ p.bs).set b ((endV hi ((elB p.bs b).1, (elB p.bs b).2.1)), (endV hi ((elB p.bs b).1, (elB p.bs b).2.1)), (elB (([] : List Bk) ++ p.bs) b).2.2)) b).2.1, k, k, (elB ((([] : List Bk) ++ p.bs).set b ((endV hi ((elB p.bs b).1, (elB p.bs b).2.1)), (endV hi ((elB p.bs b).1, (elB p.bs b).2.1)), (elB (([] : List Bk) ++ p.bs) b).2.2)) b).2.2.2.2))).flatMap bkR ++ sp6) 54), (b3, aO #[.slice none 0 0, iV 0, iV 0, .slice none 0 0] 33), (b2, aO #[.bool hi] 4), (b1, aO #[sV b6 (0 + p.bs.length) cap6, iV p.near, iV p.last, .slice none 0 0] 33)]⟩) (acc := []) (by kernel_rfl) (by kernel_rfl) trivial ?_
  refine run_loop (S := fun (v : Nat × Option (Nat × Nat × List Value)) => match v with | (i, none) => ⟨[(4, pA b1), (8, pA b3), (9, .func (.func 69) #[] #[pA b2]), (44, .slice p.ta p.ts.length p.tc), (45, iV (p.ts.length : Int)), (46, iV (i : Int))], [(b6, cO ((((((([] : List Bk) ++ p.bs).set b ((endV hi ((elB p.bs b).1, (elB p.bs b).2.1)), (endV hi ((elB p.bs b).1, (elB p.bs b).2.1)), (elB (([] : List Bk) ++ p.bs) b).2.2))).set b ((elB ((([] : List Bk) ++ p.bs).set b ((endV hi ((elB p.bs b).1, (elB p.bs b).2.1)), (endV hi ((elB p.bs b).1, (elB p.bs b).2.1)), (elB (([] : List Bk) ++ p.bs) b).2.2)) b).1, (elB ((([] : List Bk) ++ p.bs).set b ((endV hi ((elB p.bs b).1, (elB p.bs b).2.1)), (endV hi ((elB p.bs b).1, (elB p.bs b).2.1)), (elB (([] : List Bk) ++ p.bs) b).2.2)) b).2.1, k, k, (elB ((([] : List Bk) ++ p.bs).set b ((endV hi ((elB p.bs b).1, (elB p.bs b).2.1)), (endV hi ((elB p.bs b).1, (elB p.bs b).2.1)), (elB (([] : List Bk) ++ p.bs) b).2.2)) b).2.2.2.2))).flatMap bkR ++ sp6) 54), (b3, aO #[.slice none 0 0, iV 0, iV 0, .slice none 0 0] 33), (b2, aO #[.bool hi] 4), (b1, aO #[sV b6 (0 + p.bs.length) cap6, iV p.near, iV p.last, .slice none 0 0] 33)]⟩ | (i, some (gt, ct, st)) => ⟨[(4, pA b1), (8, pA b3), (9, .func (.func 69) #[] #[pA b2]), (44, .slice p.ta p.ts.length p.tc), (45, iV (p.ts.length : Int)), (46, iV (i : Int))], [(gt, cO ((exT hi p.ts i).flatMap tcR ++ st) 61), (b6, cO ((((((([] : List Bk) ++ p.bs).set b ((endV hi ((elB p.bs b).1, (elB p.bs b).2.1)), (endV hi ((elB p.bs b).1, (elB p.bs b).2.1)), (elB (([] : List Bk) ++ p.bs) b).2.2))).set b ((elB ((([] : List Bk) ++ p.bs).set b ((endV hi ((elB p.bs b).1, (elB p.bs b).2.1)), (endV hi ((elB p.bs b).1, (elB p.bs b).2.1)), (elB (([] : List Bk) ++ p.bs) b).2.2)) b).1, (elB ((([] : List Bk) ++ p.bs).set b ((endV hi ((elB p.bs b).1, (elB p.bs b).2.1)), (endV hi ((elB p.bs b).1, (elB p.bs b).2.1)), (elB (([] : List Bk) ++ p.bs) b).2.2)) b).2.1, k, k, (elB ((([] : List Bk) ++ p.bs).set b ((endV hi ((elB p.bs b).1, (elB p.bs b).2.1)), (endV hi ((elB p.bs b).1, (elB p.bs b).2.1)), (elB (([] : List Bk) ++ p.bs) b).2.2)) b).2.2.2.2))).flatMap bkR ++ sp6) 54), (b3, aO #[.slice none 0 0, iV 0, iV 0, .slice none 0 0] 33), (b2, aO #[.bool hi] 4), (b1, aO #[sV b6 (0 + p.bs.length) cap6, iV p.near, iV p.last, sV gt i ct] 33)]⟩) (fun v => v.1 ≤ p.ts.length ∧ match v.2 with | none => v.1 = 0 | some (gt, ct, st) => 1 ≤ v.1 ∧ v.1 ≤ ct ∧ ct ≤ maxLen ∧ ((exT hi p.ts v.1).flatMap tcR ++ st).length = ct * 4 ∧ w.heap.size ≤ gt) (fun v => p.ts.length - v.1) ((0, none)) (by kernel_rfl) (⟨Nat.zero_le _, rfl⟩) (by kernel_rfl) (fun v hI0 J0 hJ0 => ?_)
  obtain ⟨i, _ | ⟨gt, ct, st⟩⟩ := v
  · skip
    obtain ⟨hz1, hz3⟩ := hI0
    dsimp only at hz1 hz3
    have hzl := exT_len hi p.ts hz1
    have hml : (1000000 : Nat) ≤ maxLen := by simp only [maxLen]; omega
    cases hd1 : (decide ((i : Int) < (p.ts.length : Int))) with
    | false =>
      have hp1 := of_decide_eq_false hd1
      exfalso
      omega
    | true =>
      have hp1 := of_decide_eq_true hd1
      have hltq : i < p.ts.length := by omega
      obtain ⟨beq, oeq, hbeq, hcq⟩ := hp.tk (by intro h; rw [h] at hltq; cases hltq)
      have hcq := hcq i hltq
      refine run_auto [(47, .bool true)] 11 [true] [] [4, 8, 9, 44, 45, 46] [0, 1, 2, 3] (st' := ⟨[(4, pA b1), (8, pA b3), (9, .func (.func 69) #[] #[pA b2]), (44, .slice p.ta p.ts.length p.tc), (45, iV (p.ts.length : Int)), (46, iV (i : Int))], [(b6, cO ((((((([] : List Bk) ++ p.bs).set b ((endV hi ((elB p.bs b).1, (elB p.bs b).2.1)), (endV hi ((elB p.bs b).1, (elB p.bs b).2.1)), (elB (([] : List Bk) ++ p.bs) b).2.2))).set b ((elB ((([] : List Bk) ++ p.bs).set b ((endV hi ((elB p.bs b).1, (elB p.bs b).2.1)), (endV hi ((elB p.bs b).1, (elB p.bs b).2.1)), (elB (([] : List Bk) ++ p.bs) b).2.2)) b).1, (elB ((([] : List Bk) ++ p.bs).set b ((endV hi ((elB p.bs b).1, (elB p.bs b).2.1)), (endV hi ((elB p.bs b).1, (elB p.bs b).2.1)), (elB (([] : List Bk) ++ p.bs) b).2.2)) b).2.1, k, k, (elB ((([] : List Bk) ++ p.bs).set b ((endV hi ((elB p.bs b).1, (elB p.bs b).2.1)), (endV hi ((elB p.bs b).1, (elB p.bs b).2.1)), (elB (([] : List Bk) ++ p.bs) b).2.2)) b).2.2.2.2))).flatMap bkR ++ sp6) 54), (b3, aO #[.slice none 0 0, iV 0, iV 0, .slice none 0 0] 33), (b2, aO #[.bool hi] 4), (b1, aO #[sV b6 (0 + p.bs.length) cap6, iV p.near, iV p.last, .slice none 0 0] 33)]⟩) (acc := [(.bool true, .bool true), (.bool (decide ((i : Int) < (p.ts.length : Int))), .bool true)]) (by kernel_rfl) (by kernel_rfl) ⟨rfl, (bo hd1), trivial⟩ ?_
      refine run_v (Instr.indexAt 31 (.slice p.ta p.ts.length p.tc) (iV (i : Int)) >>= fun v => pure (Next.value v)) (some 48) (.pointer (some ⟨beq, oeq + i * 4, none⟩)) (by kernel_rfl) (fun w1 k1 h1 => (by rw [hbeq]; exact idx_off (e := 61) (n := 4) (by kernel_rfl) (by kernel_rfl) beq oeq p.ts.length p.tc .i64 i hltq (oeq + i * 4) (by omega) w1)) ?_
      refine run_v (Instr.loadAt 61 (.pointer (some ⟨beq, oeq + i * 4, none⟩)) >>= fun v => pure (Next.value v)) (some 49) (.agg #[iV (elT p.ts i).1, iV (elT p.ts i).2.1, iV (elT p.ts i).2.2.1, iV (elT p.ts i).2.2.2]) (by kernel_rfl) (fun w1 k1 h1 => load_in (off := 0) k1 (fun h => h) [iV (elT p.ts i).1, iV (elT p.ts i).2.1, iV (elT p.ts i).2.2.1, iV (elT p.ts i).2.2.2] (c4 hcq.1 hcq.2.1 hcq.2.2.1 hcq.2.2.2) (by kernel_rfl)) ?_
      refine run_new (aO #[iV 0, iV 0, iV 0, iV 0] 61) (fun b8 => pA b8) (some 13) (fun _ => by kernel_rfl) (fun b8 hb8 => ?_)
      refine run_auto [] 7 [] [0, 0] [4, 8, 9, 44, 45, 46, 13, 50, 52] [0, 1, 2, 3, 4] (st' := ⟨[(4, pA b1), (8, pA b3), (9, .func (.func 69) #[] #[pA b2]), (44, .slice p.ta p.ts.length p.tc), (45, iV (p.ts.length : Int)), (46, iV (i : Int)), (13, pA b8), (50, .func (.func 69) #[] #[pA b2]), (52, .agg #[iV (elT p.ts i).2.2.1, iV (elT p.ts i).2.2.2])], [(b8, aO #[iV (elT p.ts i).1, iV (elT p.ts i).2.1, iV (elT p.ts i).2.2.1, iV (elT p.ts i).2.2.2] 61), (b6, cO ((((((([] : List Bk) ++ p.bs).set b ((endV hi ((elB p.bs b).1, (elB p.bs b).2.1)), (endV hi ((elB p.bs b).1, (elB p.bs b).2.1)), (elB (([] : List Bk) ++ p.bs) b).2.2))).set b ((elB ((([] : List Bk) ++ p.bs).set b ((endV hi ((elB p.bs b).1, (elB p.bs b).2.1)), (endV hi ((elB p.bs b).1, (elB p.bs b).2.1)), (elB (([] : List Bk) ++ p.bs) b).2.2)) b).1, (elB ((([] : List Bk) ++ p.bs).set b ((endV hi ((elB p.bs b).1, (elB p.bs b).2.1)), (endV hi ((elB p.bs b).1, (elB p.bs b).2.1)), (elB (([] : List Bk) ++ p.bs) b).2.2)) b).2.1, k, k, (elB ((([] : List Bk) ++ p.bs).set b ((endV hi ((elB p.bs b).1, (elB p.bs b).2.1)), (endV hi ((elB p.bs b).1, (elB p.bs b).2.1)), (elB (([] : List Bk) ++ p.bs) b).2.2)) b).2.2.2.2))).flatMap bkR ++ sp6) 54), (b3, aO #[.slice none 0 0, iV 0, iV 0, .slice none 0 0] 33), (b2, aO #[.bool hi] 4), (b1, aO #[sV b6 (0 + p.bs.length) cap6, iV p.near, iV p.last, .slice none 0 0] 33)]⟩) (acc := [(pA b8, pA b8), (pA b8, pA b8)]) (by kernel_rfl) (by kernel_rfl) ⟨rfl, rfl, trivial⟩ ?_
      refine run_ret1 69 #[.agg #[iV (elT p.ts i).2.2.1, iV (elT p.ts i).2.2.2], pA b2] (some 53) (.agg #[iV (endV hi (elT p.ts i).2.2), iV (endV hi (elT p.ts i).2.2)]) (by kernel_rfl) (fun w1 k1 h1 => end_any (elT p.ts i).2.2.1 (elT p.ts i).2.2.2 hi b2 w1 (h1 (b2, aO #[.bool hi] 4) (List.mem_of_getElem? (i := 3) (by kernel_rfl)))) ?_
      refine run_auto [] 7 [] [0, 4, 0] [4, 8, 9, 44, 45, 46, 56, 57] [1, 2, 3, 4] (st' := ⟨[(4, pA b1), (8, pA b3), (9, .func (.func 69) #[] #[pA b2]), (44, .slice p.ta p.ts.length p.tc), (45, iV (p.ts.length : Int)), (46, iV (i : Int)), (56, .slice none 0 0), (57, .agg #[iV (elT p.ts i).1, iV (elT p.ts i).2.1, iV (endV hi (elT p.ts i).2.2), iV (endV hi (elT p.ts i).2.2)])], [(b6, cO ((((((([] : List Bk) ++ p.bs).set b ((endV hi ((elB p.bs b).1, (elB p.bs b).2.1)), (endV hi ((elB p.bs b).1, (elB p.bs b).2.1)), (elB (([] : List Bk) ++ p.bs) b).2.2))).set b ((elB ((([] : List Bk) ++ p.bs).set b ((endV hi ((elB p.bs b).1, (elB p.bs b).2.1)), (endV hi ((elB p.bs b).1, (elB p.bs b).2.1)), (elB (([] : List Bk) ++ p.bs) b).2.2)) b).1, (elB ((([] : List Bk) ++ p.bs).set b ((endV hi ((elB p.bs b).1, (elB p.bs b).2.1)), (endV hi ((elB p.bs b).1, (elB p.bs b).2.1)), (elB (([] : List Bk) ++ p.bs) b).2.2)) b).2.1, k, k, (elB ((([] : List Bk) ++ p.bs).set b ((endV hi ((elB p.bs b).1, (elB p.bs b).2.1)), (endV hi ((elB p.bs b).1, (elB p.bs b).2.1)), (elB (([] : List Bk) ++ p.bs) b).2.2)) b).2.2.2.2))).flatMap bkR ++ sp6) 54), (b3, aO #[.slice none 0 0, iV 0, iV 0, .slice none 0 0] 33), (b2, aO #[.bool hi] 4), (b1, aO #[sV b6 (0 + p.bs.length) cap6, iV p.near, iV p.last, .slice none 0 0] 33)]⟩) (acc := [(pA b8, pA b8), (pA b1, pA b1), (pA b8, pA b8)]) (by kernel_rfl) (by kernel_rfl) ⟨rfl, rfl, rfl, trivial⟩ ?_
      refine run_new (aO #[iV (elT p.ts i).1, iV (elT p.ts i).2.1, iV (endV hi (elT p.ts i).2.2), iV (endV hi (elT p.ts i).2.2)] 61) (fun b9 => sV b9 1 1) (some 58) (fun _ => by kernel_rfl) (fun b9 hb9 => ?_)
      refine run_app_none (t := 31) (ty := 31) (e := 61) (n := 4) (z := (.agg #[iV 0, iV 0, iV 0, iV 0])) (by kernel_rfl) (by kernel_rfl) (by kernel_rfl) rfl (by kernel_rfl) tcR tcR_len (some 59) 1 1 ([((elT p.ts i).1, (elT p.ts i).2.1, (endV hi (elT p.ts i).2.2), (endV hi (elT p.ts i).2.2))] : List Tc) ⟨b9, 0, none⟩ (by first | rfl | omega | (simp; done) | (simp; omega)) (by omega) (by kernel_rfl) (fun w1 k1 h1 jq uq hu => by rw [add_none, Nat.zero_add]; exact cells_of_heap (h1 (b9, aO #[iV (elT p.ts i).1, iV (elT p.ts i).2.1, iV (endV hi (elT p.ts i).2.2), iV (endV hi (elT p.ts i).2.2)] 61) (List.mem_of_getElem? (i := 0) (by kernel_rfl))) jq uq hu) (by omega) (fun b10 cap10 sp10 hb10 hqb10 hmb10 hlb10 => ?_)
      refine run_auto [(61, iV ((i + 1 : Nat) : Int))] 8 [] [5] [4, 8, 9, 44, 45, 46] [0, 2, 3, 4, 5] (st' := ⟨[(4, pA b1), (8, pA b3), (9, .func (.func 69) #[] #[pA b2]), (44, .slice p.ta p.ts.length p.tc), (45, iV (p.ts.length : Int)), (46, iV ((i + 1 : Nat) : Int))], [(b10, cO ((([((elT p.ts i).1, (elT p.ts i).2.1, (endV hi (elT p.ts i).2.2), (endV hi (elT p.ts i).2.2))] : List Tc)).flatMap tcR ++ sp10) 61), (b6, cO ((((((([] : List Bk) ++ p.bs).set b ((endV hi ((elB p.bs b).1, (elB p.bs b).2.1)), (endV hi ((elB p.bs b).1, (elB p.bs b).2.1)), (elB (([] : List Bk) ++ p.bs) b).2.2))).set b ((elB ((([] : List Bk) ++ p.bs).set b ((endV hi ((elB p.bs b).1, (elB p.bs b).2.1)), (endV hi ((elB p.bs b).1, (elB p.bs b).2.1)), (elB (([] : List Bk) ++ p.bs) b).2.2)) b).1, (elB ((([] : List Bk) ++ p.bs).set b ((endV hi ((elB p.bs b).1, (elB p.bs b).2.1)), (endV hi ((elB p.bs b).1, (elB p.bs b).2.1)), (elB (([] : List Bk) ++ p.bs) b).2.2)) b).2.1, k, k, (elB ((([] : List Bk) ++ p.bs).set b ((endV hi ((elB p.bs b).1, (elB p.bs b).2.1)), (endV hi ((elB p.bs b).1, (elB p.bs b).2.1)), (elB (([] : List Bk) ++ p.bs) b).2.2)) b).2.2.2.2))).flatMap bkR ++ sp6) 54), (b3, aO #[.slice none 0 0, iV 0, iV 0, .slice none 0 0] 33), (b2, aO #[.bool hi] 4), (b1, aO #[sV b6 (0 + p.bs.length) cap6, iV p.near, iV p.last, sV b10 1 cap10] 33)]⟩) (acc := [(iV (IntKind.i64.wrap ((i : Int) + 1)), iV ((i + 1 : Nat) : Int)), (pA b1, pA b1)]) (by kernel_rfl) (by kernel_rfl) ⟨(wr (by omega) (by omega)), rfl, trivial⟩ ?_
      have hst := exT_next hi (L := p.ts) (i := i) (by omega)
      subst hz3
      rw [show exT hi p.ts 0 = [] from rfl, List.nil_append] at hst
      have hj := hJ0 ((0 + 1, some (b10, cap10, sp10))) (⟨by dsimp only; omega, by dsimp only; omega, hqb10, hmb10, by dsimp only; rw [hst]; exact hlb10, hb10⟩) (by dsimp only; omega)
      dsimp only at hj
      rw [hst] at hj
      exact run_round (by kernel_rfl) hj
  · skip
    obtain ⟨hz1, hz3⟩ := hI0
    dsimp only at hz1 hz3
    have hzl := exT_len hi p.ts hz1
    have hml : (1000000 : Nat) ≤ maxLen := by simp only [maxLen]; omega
    obtain ⟨hz4, hz5, hz6, hz7, hz8⟩ := hz3
    cases hd1 : (decide ((i : Int) < (p.ts.length : Int))) with
    | false =>
      have hp1 := of_decide_eq_false hd1
      have hil : i = p.ts.length := by omega
      refine run_auto [(47, .bool false)] 12 [false] [4, 2] [8] [0, 1, 2] (st' := ⟨[(8, pA b3)], [(gt, cO ((exT hi p.ts i).flatMap tcR ++ st) 61), (b6, cO ((((((([] : List Bk) ++ p.bs).set b ((endV hi ((elB p.bs b).1, (elB p.bs b).2.1)), (endV hi ((elB p.bs b).1, (elB p.bs b).2.1)), (elB (([] : List Bk) ++ p.bs) b).2.2))).set b ((elB ((([] : List Bk) ++ p.bs).set b ((endV hi ((elB p.bs b).1, (elB p.bs b).2.1)), (endV hi ((elB p.bs b).1, (elB p.bs b).2.1)), (elB (([] : List Bk) ++ p.bs) b).2.2)) b).1, (elB ((([] : List Bk) ++ p.bs).set b ((endV hi ((elB p.bs b).1, (elB p.bs b).2.1)), (endV hi ((elB p.bs b).1, (elB p.bs b).2.1)), (elB (([] : List Bk) ++ p.bs) b).2.2)) b).2.1, k, k, (elB ((([] : List Bk) ++ p.bs).set b ((endV hi ((elB p.bs b).1, (elB p.bs b).2.1)), (endV hi ((elB p.bs b).1, (elB p.bs b).2.1)), (elB (([] : List Bk) ++ p.bs) b).2.2)) b).2.2.2.2))).flatMap bkR ++ sp6) 54), (b3, aO #[sV b6 (0 + p.bs.length) cap6, iV p.near, iV p.last, sV gt i ct] 33)]⟩) (acc := [(pA b3, pA b3), (pA b1, pA b1), (.bool false, .bool false), (.bool (decide ((i : Int) < (p.ts.length : Int))), .bool false)]) (by kernel_rfl) (by kernel_rfl) ⟨rfl, rfl, rfl, (bo hd1), trivial⟩ ?_
      refine run_endP (fn := f27) rfl (Nat.le_refl _) (by kernel_rfl) [2] [.agg #[sV b6 (0 + p.bs.length) cap6, iV p.near, iV p.last, sV gt i ct]] (e := [(pA b3, pA b3)]) (by kernel_rfl) ⟨rfl, trivial⟩ (fun w1 k1 h1 hne1 => ?_)
      rw [List.nil_append, ex_set hbl hi k] at h1
      rw [hil, exT_all] at h1
      refine ⟨(b6, cap6, sp6, gt, ct, st), trivial, ?_, k1.keeps (fun _ h => h), fun q hq => ?_, ?_⟩
      · show Ending.returned _ = Ending.returned _
        dsimp only
        rw [show (p.bs.set b (exB hi k (elB p.bs b))).length = 0 + p.bs.length by rw [List.length_set]; try omega, show (p.ts.map (exTc hi)).length = i by rw [List.length_map, hil]]
        rfl
      · simp only [List.mem_cons, List.not_mem_nil, or_false] at hq
        rcases hq with rfl | rfl
        · exact ⟨h1 (gt, _) (List.mem_of_getElem? (i := 0) rfl), hz8⟩
        · exact ⟨h1 (b6, _) (List.mem_of_getElem? (i := 1) rfl), hb6⟩
      · exact List.pairwise_cons.2 ⟨fun y hy => by rw [List.mem_singleton] at hy; subst hy; have hpp := pairwise_pick2 hne1 (i := 0) (j := 1) (by omega) rfl rfl; exact hpp, List.pairwise_singleton _ _⟩
    | true =>
      have hp1 := of_decide_eq_true hd1
      have hltq : i < p.ts.length := by omega
      obtain ⟨beq, oeq, hbeq, hcq⟩ := hp.tk (by intro h; rw [h] at hltq; cases hltq)
      have hcq := hcq i hltq
      refine run_auto [(47, .bool true)] 11 [true] [] [4, 8, 9, 44, 45, 46] [0, 1, 2, 3, 4] (st' := ⟨[(4, pA b1), (8, pA b3), (9, .func (.func 69) #[] #[pA b2]), (44, .slice p.ta p.ts.length p.tc), (45, iV (p.ts.length : Int)), (46, iV (i : Int))], [(gt, cO ((exT hi p.ts i).flatMap tcR ++ st) 61), (b6, cO ((((((([] : List Bk) ++ p.bs).set b ((endV hi ((elB p.bs b).1, (elB p.bs b).2.1)), (endV hi ((elB p.bs b).1, (elB p.bs b).2.1)), (elB (([] : List Bk) ++ p.bs) b).2.2))).set b ((elB ((([] : List Bk) ++ p.bs).set b ((endV hi ((elB p.bs b).1, (elB p.bs b).2.1)), (endV hi ((elB p.bs b).1, (elB p.bs b).2.1)), (elB (([] : List Bk) ++ p.bs) b).2.2)) b).1, (elB ((([] : List Bk) ++ p.bs).set b ((endV hi ((elB p.bs b).1, (elB p.bs b).2.1)), (endV hi ((elB p.bs b).1, (elB p.bs b).2.1)), (elB (([] : List Bk) ++ p.bs) b).2.2)) b).2.1, k, k, (elB ((([] : List Bk) ++ p.bs).set b ((endV hi ((elB p.bs b).1, (elB p.bs b).2.1)), (endV hi ((elB p.bs b).1, (elB p.bs b).2.1)), (elB (([] : List Bk) ++ p.bs) b).2.2)) b).2.2.2.2))).flatMap bkR ++ sp6) 54), (b3, aO #[.slice none 0 0, iV 0, iV 0, .slice none 0 0] 33), (b2, aO #[.bool hi] 4), (b1, aO #[sV b6 (0 + p.bs.length) cap6, iV p.near, iV p.last, sV gt i ct] 33)]⟩) (acc := [(.bool true, .bool true), (.bool (decide ((i : Int) < (p.ts.length : Int))), .bool true)]) (by kernel_rfl) (by kernel_rfl) ⟨rfl, (bo hd1), trivial⟩ ?_
      refine run_v (Instr.indexAt 31 (.slice p.ta p.ts.length p.tc) (iV (i : Int)) >>= fun v => pure (Next.value v)) (some 48) (.pointer (some ⟨beq, oeq + i * 4, none⟩)) (by kernel_rfl) (fun w1 k1 h1 => (by rw [hbeq]; exact idx_off (e := 61) (n := 4) (by kernel_rfl) (by kernel_rfl) beq oeq p.ts.length p.tc .i64 i hltq (oeq + i * 4) (by omega) w1)) ?_
      refine run_v (Instr.loadAt 61 (.pointer (some ⟨beq, oeq + i * 4, none⟩)) >>= fun v => pure (Next.value v)) (some 49) (.agg #[iV (elT p.ts i).1, iV (elT p.ts i).2.1, iV (elT p.ts i).2.2.1, iV (elT p.ts i).2.2.2]) (by kernel_rfl) (fun w1 k1 h1 => load_in (off := 0) k1 (fun h => h) [iV (elT p.ts i).1, iV (elT p.ts i).2.1, iV (elT p.ts i).2.2.1, iV (elT p.ts i).2.2.2] (c4 hcq.1 hcq.2.1 hcq.2.2.1 hcq.2.2.2) (by kernel_rfl)) ?_
      refine run_new (aO #[iV 0, iV 0, iV 0, iV 0] 61) (fun b8 => pA b8) (some 13) (fun _ => by kernel_rfl) (fun b8 hb8 => ?_)
      refine run_auto [] 7 [] [0, 0] [4, 8, 9, 44, 45, 46, 13, 50, 52] [0, 1, 2, 3, 4, 5] (st' := ⟨[(4, pA b1), (8, pA b3), (9, .func (.func 69) #[] #[pA b2]), (44, .slice p.ta p.ts.length p.tc), (45, iV (p.ts.length : Int)), (46, iV (i : Int)), (13, pA b8), (50, .func (.func 69) #[] #[pA b2]), (52, .agg #[iV (elT p.ts i).2.2.1, iV (elT p.ts i).2.2.2])], [(b8, aO #[iV (elT p.ts i).1, iV (elT p.ts i).2.1, iV (elT p.ts i).2.2.1, iV (elT p.ts i).2.2.2] 61), (gt, cO ((exT hi p.ts i).flatMap tcR ++ st) 61), (b6, cO ((((((([] : List Bk) ++ p.bs).set b ((endV hi ((elB p.bs b).1, (elB p.bs b).2.1)), (endV hi ((elB p.bs b).1, (elB p.bs b).2.1)), (elB (([] : List Bk) ++ p.bs) b).2.2))).set b ((elB ((([] : List Bk) ++ p.bs).set b ((endV hi ((elB p.bs b).1, (elB p.bs b).2.1)), (endV hi ((elB p.bs b).1, (elB p.bs b).2.1)), (elB (([] : List Bk) ++ p.bs) b).2.2)) b).1, (elB ((([] : List Bk) ++ p.bs).set b ((endV hi ((elB p.bs b).1, (elB p.bs b).2.1)), (endV hi ((elB p.bs b).1, (elB p.bs b).2.1)), (elB (([] : List Bk) ++ p.bs) b).2.2)) b).2.1, k, k, (elB ((([] : List Bk) ++ p.bs).set b ((endV hi ((elB p.bs b).1, (elB p.bs b).2.1)), (endV hi ((elB p.bs b).1, (elB p.bs b).2.1)), (elB (([] : List Bk) ++ p.bs) b).2.2)) b).2.2.2.2))).flatMap bkR ++ sp6) 54), (b3, aO #[.slice none 0 0, iV 0, iV 0, .slice none 0 0] 33), (b2, aO #[.bool hi] 4), (b1, aO #[sV b6 (0 + p.bs.length) cap6, iV p.near, iV p.last, sV gt i ct] 33)]⟩) (acc := [(pA b8, pA b8), (pA b8, pA b8)]) (by kernel_rfl) (by kernel_rfl) ⟨rfl, rfl, trivial⟩ ?_
      refine run_ret1 69 #[.agg #[iV (elT p.ts i).2.2.1, iV (elT p.ts i).2.2.2], pA b2] (some 53) (.agg #[iV (endV hi (elT p.ts i).2.2), iV (endV hi (elT p.ts i).2.2)]) (by kernel_rfl) (fun w1 k1 h1 => end_any (elT p.ts i).2.2.1 (elT p.ts i).2.2.2 hi b2 w1 (h1 (b2, aO #[.bool hi] 4) (List.mem_of_getElem? (i := 4) (by kernel_rfl)))) ?_
      refine run_auto [] 7 [] [0, 5, 0] [4, 8, 9, 44, 45, 46, 56, 57] [1, 2, 3, 4, 5] (st' := ⟨[(4, pA b1), (8, pA b3), (9, .func (.func 69) #[] #[pA b2]), (44, .slice p.ta p.ts.length p.tc), (45, iV (p.ts.length : Int)), (46, iV (i : Int)), (56, sV gt i ct), (57, .agg #[iV (elT p.ts i).1, iV (elT p.ts i).2.1, iV (endV hi (elT p.ts i).2.2), iV (endV hi (elT p.ts i).2.2)])], [(gt, cO ((exT hi p.ts i).flatMap tcR ++ st) 61), (b6, cO ((((((([] : List Bk) ++ p.bs).set b ((endV hi ((elB p.bs b).1, (elB p.bs b).2.1)), (endV hi ((elB p.bs b).1, (elB p.bs b).2.1)), (elB (([] : List Bk) ++ p.bs) b).2.2))).set b ((elB ((([] : List Bk) ++ p.bs).set b ((endV hi ((elB p.bs b).1, (elB p.bs b).2.1)), (endV hi ((elB p.bs b).1, (elB p.bs b).2.1)), (elB (([] : List Bk) ++ p.bs) b).2.2)) b).1, (elB ((([] : List Bk) ++ p.bs).set b ((endV hi ((elB p.bs b).1, (elB p.bs b).2.1)), (endV hi ((elB p.bs b).1, (elB p.bs b).2.1)), (elB (([] : List Bk) ++ p.bs) b).2.2)) b).2.1, k, k, (elB ((([] : List Bk) ++ p.bs).set b ((endV hi ((elB p.bs b).1, (elB p.bs b).2.1)), (endV hi ((elB p.bs b).1, (elB p.bs b).2.1)), (elB (([] : List Bk) ++ p.bs) b).2.2)) b).2.2.2.2))).flatMap bkR ++ sp6) 54), (b3, aO #[.slice none 0 0, iV 0, iV 0, .slice none 0 0] 33), (b2, aO #[.bool hi] 4), (b1, aO #[sV b6 (0 + p.bs.length) cap6, iV p.near, iV p.last, sV gt i ct] 33)]⟩) (acc := [(pA b8, pA b8), (pA b1, pA b1), (pA b8, pA b8)]) (by kernel_rfl) (by kernel_rfl) ⟨rfl, rfl, rfl, trivial⟩ ?_
      refine run_new (aO #[iV (elT p.ts i).1, iV (elT p.ts i).2.1, iV (endV hi (elT p.ts i).2.2), iV (endV hi (elT p.ts i).2.2)] 61) (fun b9 => sV b9 1 1) (some 58) (fun _ => by kernel_rfl) (fun b9 hb9 => ?_)
      refine run_app (t := 31) (ty := 31) (e := 61) (n := 4) (z := (.agg #[iV 0, iV 0, iV 0, iV 0])) (by kernel_rfl) (by kernel_rfl) (by kernel_rfl) rfl (by kernel_rfl) tcR tcR_len tcR_one (some 59) 1 gt i 1 ct 1 (exT hi p.ts i) ([((elT p.ts i).1, (elT p.ts i).2.1, (endV hi (elT p.ts i).2.2), (endV hi (elT p.ts i).2.2))] : List Tc) st ⟨b9, 0, none⟩ (by first | rfl | omega | (simp; done) | (simp; omega)) (by first | rfl | omega | (simp; done) | (simp; omega)) (by kernel_rfl) (by kernel_rfl) hz6 hz7 (fun w1 k1 h1 jq uq hu => by rw [add_none, Nat.zero_add]; exact cells_of_heap (h1 (b9, aO #[iV (elT p.ts i).1, iV (elT p.ts i).2.1, iV (endV hi (elT p.ts i).2.2), iV (endV hi (elT p.ts i).2.2)] 61) (List.mem_of_getElem? (i := 0) (by kernel_rfl))) jq uq hu) (by omega) hz8 (fun b10 cap10 sp10 hb10 hqb10 hmb10 hlb10 => ?_)
      refine run_auto [(61, iV ((i + 1 : Nat) : Int))] 8 [] [5] [4, 8, 9, 44, 45, 46] [0, 2, 3, 4, 5] (st' := ⟨[(4, pA b1), (8, pA b3), (9, .func (.func 69) #[] #[pA b2]), (44, .slice p.ta p.ts.length p.tc), (45, iV (p.ts.length : Int)), (46, iV ((i + 1 : Nat) : Int))], [(b10, cO ((exT hi p.ts i ++ ([((elT p.ts i).1, (elT p.ts i).2.1, (endV hi (elT p.ts i).2.2), (endV hi (elT p.ts i).2.2))] : List Tc)).flatMap tcR ++ sp10) 61), (b6, cO ((((((([] : List Bk) ++ p.bs).set b ((endV hi ((elB p.bs b).1, (elB p.bs b).2.1)), (endV hi ((elB p.bs b).1, (elB p.bs b).2.1)), (elB (([] : List Bk) ++ p.bs) b).2.2))).set b ((elB ((([] : List Bk) ++ p.bs).set b ((endV hi ((elB p.bs b).1, (elB p.bs b).2.1)), (endV hi ((elB p.bs b).1, (elB p.bs b).2.1)), (elB (([] : List Bk) ++ p.bs) b).2.2)) b).1, (elB ((([] : List Bk) ++ p.bs).set b ((endV hi ((elB p.bs b).1, (elB p.bs b).2.1)), (endV hi ((elB p.bs b).1, (elB p.bs b).2.1)), (elB (([] : List Bk) ++ p.bs) b).2.2)) b).2.1, k, k, (elB ((([] : List Bk) ++ p.bs).set b ((endV hi ((elB p.bs b).1, (elB p.bs b).2.1)), (endV hi ((elB p.bs b).1, (elB p.bs b).2.1)), (elB (([] : List Bk) ++ p.bs) b).2.2)) b).2.2.2.2))).flatMap bkR ++ sp6) 54), (b3, aO #[.slice none 0 0, iV 0, iV 0, .slice none 0 0] 33), (b2, aO #[.bool hi] 4), (b1, aO #[sV b6 (0 + p.bs.length) cap6, iV p.near, iV p.last, sV b10 (i + 1) cap10] 33)]⟩) (acc := [(iV (IntKind.i64.wrap ((i : Int) + 1)), iV ((i + 1 : Nat) : Int)), (pA b1, pA b1)]) (by kernel_rfl) (by kernel_rfl) ⟨(wr (by omega) (by omega)), rfl, trivial⟩ ?_
      have hst := exT_next hi (L := p.ts) (i := i) (by omega)
      have hj := hJ0 ((i + 1, some (b10, cap10, sp10))) (⟨by dsimp only; omega, by dsimp only; omega, hqb10, hmb10, by dsimp only; rw [hst]; exact hlb10, hb10⟩) (by dsimp only; omega)
      dsimp only at hj
      rw [hst] at hj
      exact run_round (by kernel_rfl) hj

end Go.Proofs.Ytfjfkaaflghaiaa

namespace Go.Proofs.Ytfjfkaaflghaiaa
open Go.RowKit Go.Proofs.Try
attribute [local irreducible] Run wpK


def Sn.ex (s : Sn) (b : Nat) (hi : Bool) (k : Int) : Sn := { s with bs := s.bs.set b (exB hi k (elB s.bs b)), ts := s.ts.map (exTc hi) }
def Sb.ex (p : Sb) (b : Nat) (hi : Bool) (k : Int) (g cap : Nat) (ta : Option Addr) (tc : Nat) : Sb := ⟨some ⟨g, 0, none⟩, cap, p.bs.set b (exB hi k (elB p.bs b)), p.near, p.last, ta, tc, p.ts.map (exTc hi)⟩
theorem ex_in {p : Sb} {b g cap tc : Nat} {hi : Bool} {k : Int} {ta : Option Addr} {w : World} {sp : List Value} {ty : TypeId} {fr : Nat × Nat} (hp : p.In w) (hg : w.heap[g]? = some (.cells ((p.bs.set b (exB hi k (elB p.bs b))).flatMap bkR ++ sp).toArray ty fr)) (ht : Tcs w ta (p.ts.map (exTc hi))) : (p.ex b hi k g cap ta tc).In w :=
  ⟨Bks.of_flat hg, ht, by show (p.bs.set b _).length ≤ maxLen; rw [List.length_set]; exact hp.lb, by show (p.ts.map _).length ≤ maxLen; rw [List.length_map]; exact hp.lt⟩
theorem vBk_of {b : Bk} (h : BkF b) : vBk b = true := by
  unfold vBk
  rw [show spI (b.1, b.2.1) (-100) 100 = true from decide_eq_true h.x, show spI (b.2.2.1, b.2.2.2.1) 2 8 = true from decide_eq_true h.s]
  exact decide_eq_true h.g
theorem vTc_of {n : Nat} {l : Int} {t : Tc} (h : TcF n l t) : vTc n l t = true := by
  have hb := h.b
  unfold vTc
  rw [show inI t.1 0 ((n : Int) - 1) = true from decide_eq_true (by omega), show inI t.2.1 0 l = true from decide_eq_true h.m]
  exact decide_eq_true h.h
theorem endV_bd {hi : Bool} {x y a c : Int} (h : a ≤ x ∧ x ≤ y ∧ y ≤ c) : a ≤ endV hi (x, y) ∧ endV hi (x, y) ≤ c := by
  unfold endV
  cases hi <;> simp only [cond_true, cond_false] <;> omega
theorem exB_ok {b : Bk} (h : BkF b) (hi : Bool) {k : Int} (hk : 2 ≤ k ∧ k ≤ 8) : BkF (exB hi k b) := by
  have h1 := endV_bd (hi := hi) h.x
  exact ⟨by show -100 ≤ endV hi (b.1, b.2.1) ∧ endV hi (b.1, b.2.1) ≤ endV hi (b.1, b.2.1) ∧ endV hi (b.1, b.2.1) ≤ 100; omega, by show 2 ≤ k ∧ k ≤ k ∧ k ≤ 8; omega, h.g⟩
theorem exTc_ok {n : Nat} {l : Int} {t : Tc} (h : TcF n l t) (hi : Bool) : TcF n l (exTc hi t) := by
  have h1 : -100 ≤ endV hi t.2.2 ∧ endV hi t.2.2 ≤ 100 := endV_bd (hi := hi) h.h
  exact ⟨h.b, h.m, by show -100 ≤ endV hi t.2.2 ∧ endV hi t.2.2 ≤ endV hi t.2.2 ∧ endV hi t.2.2 ≤ 100; omega⟩
theorem ex_ok {s : Sn} (h : s.ok = true) {b : Nat} (hb : b < s.bs.length) (hi : Bool) {k : Int} (hk : 2 ≤ k ∧ k ≤ 8) : (s.ex b hi k).ok = true := by
  have hF := Sn.fine h
  unfold Sn.ok Sn.ex at *
  dsimp only
  simp only [Bool.and_eq_true, decide_eq_true_eq, List.all_eq_true, List.length_set, List.length_map] at h ⊢
  obtain ⟨⟨⟨⟨⟨⟨h1, h2⟩, h3⟩, h4⟩, h5⟩, h6⟩, h7⟩ := h
  refine ⟨⟨⟨⟨⟨⟨h1, h2⟩, fun x hx => ?_⟩, h4⟩, h5⟩, h6⟩, fun x hx => ?_⟩
  · rcases List.mem_or_eq_of_mem_set hx with hx | hx
    · exact h3 x hx
    · subst hx
      exact vBk_of (exB_ok (hF.bkF hb) hi hk)
  · obtain ⟨t, ht, rfl⟩ := List.mem_map.1 hx
    exact vTc_of (exTc_ok (vTc_F (h7 t ht)) hi)
theorem ex_hL (ts : List Tc) (b m : Int) (hi f : Bool) : hL (ts.map (exTc hi)) b m f = hL ts b m hi := by
  unfold hL
  rw [List.filter_map, List.map_map]
  have e1 : (isAt b m ∘ exTc hi) = isAt b m := rfl
  have e2 : (hs f ∘ exTc hi) = hs hi := by
    funext t
    cases f <;> cases hi <;> rfl
  rw [e1, e2]
/-- The one excess that it then has. -/
def xV (s : Sn) (b : Nat) (hi : Bool) (k : Int) (m : Nat) : Int := bif hi then s.hi b k m else s.lo b k m
theorem endN_ext {H H' : Nat → List Int} (h : ∀ m, H m = H' m) (x k : Int) : ∀ m, endN x H k m = endN x H' k m
  | 0 => by show heat x (H 0) = heat x (H' 0); rw [h]
  | m + 1 => by show heat (fall (endN x H k m) k) (H (m + 1)) = heat (fall (endN x H' k m) k) (H' (m + 1)); rw [h, endN_ext h x k m]
theorem ex_out {s : Sn} (h : s.ok = true) {b : Nat} (hb : b < s.bs.length) (hi : Bool) {k : Int} (hk : 2 ≤ k ∧ k ≤ 8) {m : Nat} (hm : m ≤ 200) : (s.ex b hi k).out b m = (xV s b hi k m, xV s b hi k m) := by
  have hF := Sn.fine (ex_ok h hb hi hk)
  have hb2 : b < (s.ex b hi k).bs.length := by show b < (s.bs.set b _).length; rw [List.length_set]; exact hb
  obtain ⟨_, ⟨i1, hi1, e1⟩, ⟨i2, hi2, e2⟩⟩ := out_is hF hb2 hm
  have hE : elB (s.ex b hi k).bs b = exB hi k (elB s.bs b) := elB_set_self hb
  have hW : slW (elB (s.ex b hi k).bs b) = 1 := by rw [hE]; show (k - k + 1).toNat = 1; rw [Int.sub_self]; rfl
  rw [hW] at hi1 hi2
  have z1 : i1 = 0 := by omega
  have z2 : i2 = 0 := by omega
  subst z1; subst z2
  have hN : slN (elB (s.ex b hi k).bs b) 0 = k := by rw [hE]; show k + ((0 : Nat) : Int) = k; omega
  rw [hN] at e1 e2
  have hl : (s.ex b hi k).lo b k m = xV s b hi k m := by
    unfold Sn.lo
    rw [hE]
    refine (endN_ext (H' := fun m => hL s.ts b m hi) (fun m => ex_hL s.ts b m hi false) _ _ _).trans ?_
    cases hi <;> rfl
  have hh : (s.ex b hi k).hi b k m = xV s b hi k m := by
    unfold Sn.hi
    rw [hE]
    refine (endN_ext (H' := fun m => hL s.ts b m hi) (fun m => ex_hL s.ts b m hi true) _ _ _).trans ?_
    cases hi <;> rfl
  exact Prod.ext (e1.trans hl) (e2.trans hh)
def mnJ (s : Sn) (b m : Nat) : Nat → Int
  | 0 => 1048576
  | j + 1 => min (min (mnJ s b m j) (xV s b false (slN (elB s.bs b) j) m)) (xV s b true (slN (elB s.bs b) j) m)
def mxJ (s : Sn) (b m : Nat) : Nat → Int
  | 0 => -1048576
  | j + 1 => max (max (mxJ s b m j) (xV s b false (slN (elB s.bs b) j) m)) (xV s b true (slN (elB s.bs b) j) m)
theorem mnJ_ge {s : Sn} {b m : Nat} {c : Int} (hc : c ≤ 1048576) : ∀ n, (∀ j, j < n → c ≤ xV s b false (slN (elB s.bs b) j) m ∧ c ≤ xV s b true (slN (elB s.bs b) j) m) → c ≤ mnJ s b m n
  | 0, _ => hc
  | n + 1, h => by
    have h1 := mnJ_ge hc n fun j hj => h j (by omega)
    have h2 := h n (by omega)
    show c ≤ min (min (mnJ s b m n) _) _
    omega
theorem mnJ_le {s : Sn} {b m : Nat} : ∀ n, ∀ j, j < n → mnJ s b m n ≤ xV s b false (slN (elB s.bs b) j) m ∧ mnJ s b m n ≤ xV s b true (slN (elB s.bs b) j) m
  | n + 1, j, hj => by
    show min (min (mnJ s b m n) _) _ ≤ _ ∧ min (min (mnJ s b m n) _) _ ≤ _
    by_cases e : j < n
    · have := mnJ_le (s := s) (b := b) (m := m) n j e; omega
    · rw [show j = n by omega]; omega
theorem mxJ_le {s : Sn} {b m : Nat} {c : Int} (hc : -1048576 ≤ c) : ∀ n, (∀ j, j < n → xV s b false (slN (elB s.bs b) j) m ≤ c ∧ xV s b true (slN (elB s.bs b) j) m ≤ c) → mxJ s b m n ≤ c
  | 0, _ => hc
  | n + 1, h => by
    have h1 := mxJ_le hc n fun j hj => h j (by omega)
    have h2 := h n (by omega)
    show max (max (mxJ s b m n) _) _ ≤ c
    omega
theorem mxJ_ge {s : Sn} {b m : Nat} : ∀ n, ∀ j, j < n → xV s b false (slN (elB s.bs b) j) m ≤ mxJ s b m n ∧ xV s b true (slN (elB s.bs b) j) m ≤ mxJ s b m n
  | n + 1, j, hj => by
    show _ ≤ max (max (mxJ s b m n) _) _ ∧ _ ≤ max (max (mxJ s b m n) _) _
    by_cases e : j < n
    · have := mxJ_ge (s := s) (b := b) (m := m) n j e; omega
    · rw [show j = n by omega]; omega
/-- The ends told are the least and the greatest of these. -/
theorem ends_are {s : Sn} (hF : s.Fine) {b : Nat} (hb : b < s.bs.length) {m : Nat} (hm : m ≤ 60) : mnJ s b m (slW (elB s.bs b)) = (s.out b m).1 ∧ mxJ s b m (slW (elB s.bs b)) = (s.out b m).2 := by
  obtain ⟨ho, ⟨i1, hi1, e1⟩, ⟨i2, hi2, e2⟩⟩ := out_is hF hb (m := m) (by omega)
  have hbd := out_bd hF hb (m := m) (by omega)
  have f1 : ∀ j, xV s b false (slN (elB s.bs b) j) m = (s.en b (slN (elB s.bs b) j) m).1 := fun _ => rfl
  have f2 : ∀ j, xV s b true (slN (elB s.bs b) j) m = (s.en b (slN (elB s.bs b) j) m).2 := fun _ => rfl
  constructor
  · refine Int.le_antisymm ?_ (mnJ_ge (by omega) _ fun j hj => ?_)
    · have := (mnJ_le (s := s) (b := b) (m := m) _ i1 hi1).1
      rw [f1] at this
      omega
    · have := ho j hj
      rw [f1, f2]
      omega
  · refine Int.le_antisymm (mxJ_le (by omega) _ fun j hj => ?_) ?_
    · have := ho j hj
      rw [f1, f2]
      omega
    · have := (mxJ_ge (s := s) (b := b) (m := m) _ i2 hi2).2
      rw [f2] at this
      omega
theorem xV_bd {s : Sn} (hF : s.Fine) {b : Nat} (hb : b < s.bs.length) {m : Nat} (hm : m ≤ 60) {hi : Bool} {k : Int} (hk : 1 ≤ k) : -200000 ≤ xV s b hi k m ∧ xV s b hi k m ≤ 200000 := by
  have h := en_bd hF hb hk (m := m) (by omega)
  cases hi
  · exact h.1
  · exact h.2
theorem lon_is {s : Sn} {b m : Nat} (hok : s.ok = true) (hb : b < s.bs.length) (hm : (m : Int) ≤ s.last) : lonR s b m = .inr (lonS (s.out b m) (elB s.bs b).2.2.2.2) := by
  unfold lonR Sn.isB Sn.isM inI
  rw [hok, decide_eq_true (show (0 : Int) ≤ (b : Int) ∧ (b : Int) ≤ (s.bs.length : Int) - 1 by omega), decide_eq_true (show (0 : Int) ≤ (m : Int) ∧ (m : Int) ≤ s.last by omega)]
  rfl
theorem isB_no {s : Sn} : s.isB (s.bs.length : Int) = false := decide_eq_false (by omega)
theorem isB_zero {s : Sn} (h : 1 ≤ s.bs.length) : s.isB 0 = true := decide_eq_true (by omega)
theorem isM_no {s : Sn} : s.isM (s.last + 1) = false := decide_eq_false (by omega)
theorem isM_zero {s : Sn} (h : 1 ≤ s.last) : s.isM 0 = true := decide_eq_true (by omega)
theorem tdv_bd (n : Int) : n / 10 ≤ Int.tdiv n 10 ∧ Int.tdiv n 10 ≤ n / 10 + 1 := by
  rcases Int.lt_or_le n 0 with h | h
  · have e : Int.tdiv n 10 = -((-n) / 10) := by
      have := Int.neg_tdiv (-n) 10
      rw [Int.neg_neg] at this
      rw [this, Int.tdiv_eq_ediv_of_nonneg (by omega)]
    rw [e]
    omega
  · rw [Int.tdiv_eq_ediv_of_nonneg h]
    omega
set_option maxRecDepth 100000 in
theorem ldown_any (n : Int) (n1 : -1000000000 ≤ n) (n2 : n ≤ 1000000000) (w : World)  : Calls Try.prog 26 #[.int .i64 n] w (RetI (dwn n) w) := by
  have htd := tdv_bd n
  refine calls_run (fn := f26) (c := (f26.body).getD .skip) [.int .i64 n] func26 (by kernel_rfl) (fun _ => False) [] (fun _ h => by cases h) (List.Pairwise.nil) 13 (by kernel_rfl) (by simp) ?_
  refine run_auto [(5, iV (Int.tdiv n 10))] 12 [] [] [0, 2, 3] [] (st' := ⟨[(0, iV n), (2, iV 0), (3, iV (Int.tdiv n 10))], []⟩) (acc := [(iV (IntKind.i64.wrap (Int.tdiv n 10)), iV (Int.tdiv n 10))]) (by kernel_rfl) (by kernel_rfl) ⟨(tdv (by omega) (by omega)), trivial⟩ ?_
  refine run_auto [] 0 [] [] [0, 2, 3] [] (st' := ⟨[(0, iV n), (2, iV 0), (3, iV (Int.tdiv n 10))], []⟩) (acc := []) (by kernel_rfl) (by kernel_rfl) trivial ?_
  refine run_loop (S := fun (q : Int) => ⟨[(0, iV n), (2, iV 0), (3, iV q)], []⟩) (fun q => n / 10 ≤ q ∧ q ≤ n / 10 + 1) (fun q => (q - n / 10).toNat) (Int.tdiv n 10) (by kernel_rfl) (tdv_bd n) (by kernel_rfl) (fun q hI0 J0 hJ0 => ?_)
  obtain ⟨hq1, hq2⟩ := hI0
  cases hd1 : (decide (n < (q * 10))) with
  | false =>
    have hp1 := of_decide_eq_false hd1
    refine run_auto [(7, iV (q * 10)), (9, .bool false)] 15 [false] [] [2] [] (st' := ⟨[(2, iV q)], []⟩) (acc := [(.bool false, .bool false), (.bool (decide (n < (q * 10))), .bool false), (iV (IntKind.i64.wrap (q * 10)), iV (q * 10))]) (by kernel_rfl) (by kernel_rfl) ⟨rfl, (bo hd1), (wr (by omega) (by omega)), trivial⟩ ?_
    refine run_end (fn := f26) rfl (Nat.le_refl _) (by kernel_rfl) [] [iV q] (e := []) (by kernel_rfl) trivial (fun w1 k1 h1 => ?_)
    exact ⟨by rw [show dwn n = q from by unfold dwn; omega]; rfl, k1.keeps (fun _ h => h)⟩
  | true =>
    have hp1 := of_decide_eq_true hd1
    refine run_auto [(7, iV (q * 10)), (9, .bool true), (11, iV (q - 1))] 17 [true] [] [0, 2, 3] [] (st' := ⟨[(0, iV n), (2, iV 0), (3, iV (q - 1))], []⟩) (acc := [(iV (IntKind.i64.wrap (q - 1)), iV (q - 1)), (.bool true, .bool true), (.bool (decide (n < (q * 10))), .bool true), (iV (IntKind.i64.wrap (q * 10)), iV (q * 10))]) (by kernel_rfl) (by kernel_rfl) ⟨(wr (by omega) (by omega)), rfl, (bo hd1), (wr (by omega) (by omega)), trivial⟩ ?_
    exact run_round (by kernel_rfl) (hJ0 (q - 1) (⟨by omega, by omega⟩) (by omega))

end Go.Proofs.Ytfjfkaaflghaiaa
