/-
  LAW: inside; a pair in which a deviation is known; a pair with readings more.
-/
import Derived.Test.YtmiobcnccbfknaaHF2
import Derived.Test.YtmiobcnccbfknaaGb
namespace Go.Proofs.Ytmiobcnccbfknaa
open Go.RowKit Go.Proofs.Try


def insB (n lo hi : Int) : Bool := decide (lo ≤ n ∧ n ≤ hi)
/-- With other blocks, readings. -/
def Pr.bl_ (p : Pr) (g cap : Nat) (L : List (Int × Int)) : Pr := { p with ba := some ⟨g, 0, none⟩, bc := cap, bs := L }
theorem Pr.In.bl_ {p : Pr} {w : World} (h : p.In w) {g : Nat} (cap : Nat) {L : List (Int × Int)} {sp : List Value} {t : TypeId} {fr : Nat × Nat} (hw : w.heap[g]? = some (.cells (L.flatMap spR ++ sp).toArray t fr)) (hl : L.length ≤ maxLen) : (p.bl_ g cap L).In w := ⟨Bls.of_flat hw, h.rd, hl, h.lr⟩
theorem Bls.flat {w : World} {a : Option Addr} {bs : List (Int × Int)} (h : Bls w a bs) : bs ≠ [] → ∃ b o, a = some ⟨b, o, none⟩ ∧ ∀ j u, (bs.flatMap spR)[j]? = some u → w.cell? ((⟨b, o, none⟩ : Addr).add j) = some u := by
  intro hx
  obtain ⟨b, o, e, hc⟩ := h hx
  refine ⟨b, o, e, flat_cells spR_len fun i x hi k u hk => ?_⟩
  have hl := (List.getElem?_eq_some_iff.1 hi).1
  have h5 := hc i hl
  have e2 : elB bs i = x := by unfold elB; rw [hi]; rfl
  rw [e2] at h5
  exact c2 h5.1 h5.2 k u hk
set_option maxRecDepth 100000 in
theorem inside_any (n lo hi : Int) (w : World)  : Calls Try.prog 24 #[.int .i64 n, .agg #[.int .i64 lo, .int .i64 hi]] w (RetB (insB n lo hi) w) := by
  refine calls_run (fn := f24) (c := (f24.body).getD .skip) [.int .i64 n, .agg #[.int .i64 lo, .int .i64 hi]] func24 (by kernel_rfl) (fun _ => False) [] (fun _ h => by cases h) (List.Pairwise.nil) 15 (by kernel_rfl) (by simp) ?_
  refine run_auto [] 2 [] [] [0, 1] [] (st' := ⟨[(0, .int .i64 n), (1, .agg #[.int .i64 lo, .int .i64 hi])], []⟩) (acc := []) (by kernel_rfl) (by kernel_rfl) trivial ?_
  refine run_new (.cells #[.int .i64 lo, .int .i64 hi] 23 (0, 0)) (fun b1 => .pointer (some ⟨b1, 0, none⟩)) (some 3) (fun _ => by kernel_rfl) (fun b1 hb1 => ?_)
  cases hd1 : (decide (lo ≤ n)) with
  | false =>
    have hp1 := of_decide_eq_false hd1
    refine run_auto [(8, .bool false)] 16 [] [0] [4] [] (st' := ⟨[(4, .bool false)], []⟩) (acc := [(.bool (decide (lo ≤ n)), .bool false), (.pointer (some ⟨b1, 0, none⟩), .pointer (some ⟨b1, 0, none⟩))]) (by kernel_rfl) (by kernel_rfl) ⟨(bo hd1), rfl, trivial⟩ ?_
    refine run_end (fn := f24) rfl (Nat.le_refl _) (by kernel_rfl) [] [.bool false] (e := []) (by kernel_rfl) trivial (fun w1 k1 h1 => ?_)
    exact ⟨by simp only [resVal]; congr 2; simp only [insB]; simp; omega, k1.keeps (fun _ h => h)⟩
  | true =>
    have hp1 := of_decide_eq_true hd1
    cases hd2 : (decide (n ≤ hi)) with
    | false =>
      have hp2 := of_decide_eq_false hd2
      refine run_auto [(8, .bool true), (13, .bool false)] 16 [] [0, 0] [4] [] (st' := ⟨[(4, .bool false)], []⟩) (acc := [(.bool (decide (n ≤ hi)), .bool false), (.pointer (some ⟨b1, 0, none⟩), .pointer (some ⟨b1, 0, none⟩)), (.bool (decide (lo ≤ n)), .bool true), (.pointer (some ⟨b1, 0, none⟩), .pointer (some ⟨b1, 0, none⟩))]) (by kernel_rfl) (by kernel_rfl) ⟨(bo hd2), rfl, (bo hd1), rfl, trivial⟩ ?_
      refine run_end (fn := f24) rfl (Nat.le_refl _) (by kernel_rfl) [] [.bool false] (e := []) (by kernel_rfl) trivial (fun w1 k1 h1 => ?_)
      exact ⟨by simp only [resVal]; congr 2; simp only [insB]; simp; omega, k1.keeps (fun _ h => h)⟩
    | true =>
      have hp2 := of_decide_eq_true hd2
      refine run_auto [(8, .bool true), (13, .bool true)] 16 [] [0, 0] [4] [] (st' := ⟨[(4, .bool true)], []⟩) (acc := [(.bool (decide (n ≤ hi)), .bool true), (.pointer (some ⟨b1, 0, none⟩), .pointer (some ⟨b1, 0, none⟩)), (.bool (decide (lo ≤ n)), .bool true), (.pointer (some ⟨b1, 0, none⟩), .pointer (some ⟨b1, 0, none⟩))]) (by kernel_rfl) (by kernel_rfl) ⟨(bo hd2), rfl, (bo hd1), rfl, trivial⟩ ?_
      refine run_end (fn := f24) rfl (Nat.le_refl _) (by kernel_rfl) [] [.bool true] (e := []) (by kernel_rfl) trivial (fun w1 k1 h1 => ?_)
      exact ⟨by simp only [resVal]; congr 2; simp only [insB]; simp; omega, k1.keeps (fun _ h => h)⟩

set_option maxRecDepth 100000 in
theorem at_any (p : Pr) (a : Nat) (k : Int) (w : World) (hp : p.In w) (ha : a < p.bs.length) (h5 : p.bs.length ≤ 5) : Calls Try.prog 28 #[.agg #[.slice p.ba p.bs.length p.bc, .int .i64 p.zlo, .int .i64 p.zhi, .int .i64 p.rlo, .int .i64 p.rhi, .slice p.ra p.rs.length p.rc], .int .i64 (a : Int), .int .i64 k] w (NwL (α := Nat × Nat × List Value) (fun x => .agg #[.slice (some ⟨(x.1), 0, none⟩) ((p.bs.set a (k, k)).length) (x.2.1), .int .i64 p.zlo, .int .i64 p.zhi, .int .i64 p.rlo, .int .i64 p.rhi, .slice p.ra p.rs.length p.rc]) (fun x => [((x.1), .cells ((p.bs.set a (k, k)).flatMap spR ++ (x.2.2)).toArray 23 (0, 0))]) (fun x => p.bs.length ≤ (x.2.1)) w) := by
  refine calls_run (fn := f28) (c := (f28.body).getD .skip) [.agg #[.slice p.ba p.bs.length p.bc, .int .i64 p.zlo, .int .i64 p.zhi, .int .i64 p.rlo, .int .i64 p.rhi, .slice p.ra p.rs.length p.rc], .int .i64 (a : Int), .int .i64 k] func28 (by kernel_rfl) (fun _ => False) [] (fun _ h => by cases h) (List.Pairwise.nil) 20 (by kernel_rfl) (by simp) ?_
  refine run_auto [] 2 [] [] [0, 1, 2] [] (st' := ⟨[(0, .agg #[.slice p.ba p.bs.length p.bc, .int .i64 p.zlo, .int .i64 p.zhi, .int .i64 p.rlo, .int .i64 p.rhi, .slice p.ra p.rs.length p.rc]), (1, .int .i64 (a : Int)), (2, .int .i64 k)], []⟩) (acc := []) (by kernel_rfl) (by kernel_rfl) trivial ?_
  refine run_new (.cells #[.slice p.ba p.bs.length p.bc, .int .i64 p.zlo, .int .i64 p.zhi, .int .i64 p.rlo, .int .i64 p.rhi, .slice p.ra p.rs.length p.rc] 30 (0, 0)) (fun b1 => .pointer (some ⟨b1, 0, none⟩)) (some 3) (fun _ => by kernel_rfl) (fun b1 hb1 => ?_)
  refine run_new (.cells #[.slice none 0 0, .int .i64 0, .int .i64 0, .int .i64 0, .int .i64 0, .slice none 0 0] 30 (0, 0)) (fun b2 => .pointer (some ⟨b2, 0, none⟩)) (some 6) (fun _ => by kernel_rfl) (fun b2 hb2 => ?_)
  refine run_auto [] 3 [] [] [1, 2, 3, 6] [0, 1] (st' := ⟨[(1, .int .i64 (a : Int)), (2, .int .i64 k), (3, .pointer (some ⟨b1, 0, none⟩)), (6, .pointer (some ⟨b2, 0, none⟩))], [(b2, .cells #[.slice none 0 0, .int .i64 0, .int .i64 0, .int .i64 0, .int .i64 0, .slice none 0 0] 30 (0, 0)), (b1, .cells #[.slice p.ba p.bs.length p.bc, .int .i64 p.zlo, .int .i64 p.zhi, .int .i64 p.rlo, .int .i64 p.rhi, .slice p.ra p.rs.length p.rc] 30 (0, 0))]⟩) (acc := []) (by kernel_rfl) (by kernel_rfl) trivial ?_
  refine run_new (.cells #[] 23 (0, 0)) (fun b3 => .slice (some ⟨b3, 0, none⟩) 0 0) (some 7) (fun _ => by kernel_rfl) (fun b3 hb3 => ?_)
  refine run_auto [] 2 [] [2] [1, 2, 3, 6, 7, 9] [0, 1, 2] (st' := ⟨[(1, .int .i64 (a : Int)), (2, .int .i64 k), (3, .pointer (some ⟨b1, 0, none⟩)), (6, .pointer (some ⟨b2, 0, none⟩)), (7, .slice (some ⟨b3, 0, none⟩) 0 0), (9, .slice p.ba p.bs.length p.bc)], [(b3, .cells #[] 23 (0, 0)), (b2, .cells #[.slice none 0 0, .int .i64 0, .int .i64 0, .int .i64 0, .int .i64 0, .slice none 0 0] 30 (0, 0)), (b1, .cells #[.slice p.ba p.bs.length p.bc, .int .i64 p.zlo, .int .i64 p.zhi, .int .i64 p.rlo, .int .i64 p.rhi, .slice p.ra p.rs.length p.rc] 30 (0, 0))]⟩) (acc := [(.pointer (some ⟨b1, 0, none⟩), .pointer (some ⟨b1, 0, none⟩))]) (by kernel_rfl) (by kernel_rfl) ⟨rfl, trivial⟩ ?_
  refine run_appO (t := 27) (ty := 27) (e := 23) (n := 2) (z := (.agg #[.int .i64 0, .int .i64 0])) (by kernel_rfl) (by kernel_rfl) (by kernel_rfl) rfl (by kernel_rfl) spR spR_len spR_one (some 10) 0 b3 0 p.bs.length 0 p.bc ([] : List (Int × Int)) p.bs ([]) p.ba (by first | rfl | (simp; omega)) (by first | rfl | (simp; omega)) (by kernel_rfl) (by kernel_rfl) (by simp only [maxLen]; omega) rfl (by omega) (fun w1 k1 h1 => ((hp.bl.keep (k1.keeps (fun _ h => h))).flat)) (by omega) hb3 (fun b4 cap4 sp4 hb4 hqb4 hmb4 hlb4 => ?_)
  refine run_auto [] 4 [] [2] [1, 2, 3, 6] [0, 1, 2] (st' := ⟨[(1, .int .i64 (a : Int)), (2, .int .i64 k), (3, .pointer (some ⟨b1, 0, none⟩)), (6, .pointer (some ⟨b2, 0, none⟩))], [(b4, .cells ((([] : List (Int × Int)) ++ p.bs).flatMap spR ++ sp4).toArray 23 (0, 0)), (b2, .cells #[.slice none 0 0, .int .i64 0, .int .i64 0, .int .i64 0, .int .i64 0, .slice none 0 0] 30 (0, 0)), (b1, .cells #[.slice (some ⟨b4, 0, none⟩) (0 + p.bs.length) cap4, .int .i64 p.zlo, .int .i64 p.zhi, .int .i64 p.rlo, .int .i64 p.rhi, .slice p.ra p.rs.length p.rc] 30 (0, 0))]⟩) (acc := [(.pointer (some ⟨b1, 0, none⟩), .pointer (some ⟨b1, 0, none⟩))]) (by kernel_rfl) (by kernel_rfl) ⟨rfl, trivial⟩ ?_
  refine drawW 8 [{ val := fun _ => .pointer (some ⟨b1, 0, none⟩), slots := [3] },
      { val := fun _ => .slice (some ⟨b4, 0, none⟩) (0 + p.bs.length) cap4, slots := [12], reads := [2] },
      { val := fun _ => .int .i64 (a : Int), slots := [1] },
      { val := fun _ => .int .i64 k, slots := [2] },
      { val := fun _ => .int .i64 k, slots := [2] },
      { val := fun _ => .agg #[.int .i64 k, .int .i64 k], slots := [15, 16] },
      { val := fun _ => .pointer (some ⟨b4, a * 2, none⟩), slots := [13, 14] },
      { upd := [(0, fun _ => .cells (((([] : List (Int × Int)) ++ p.bs).set a (k, k)).flatMap spR ++ sp4).toArray 23 (0, 0))], slots := [17, 18], reads := [0] }] [[], [0], [], [], [], [3, 4], [0, 1, 2, 3, 4, 5], [0, 1, 2, 3, 4, 5, 6]] (by kernel_rfl) (by kernel_rfl) (by kernel_rfl) (by kernel_rfl) [3, 6] [0, 1, 2] (by kernel_rfl)
      ⟨⟨⟨⟨⟨⟨⟨⟨trivial,
      tri_quietW (fun β => []) [] [] (fun β => []) (by kernel_rfl) (fun β extra => by kernel_rfl) (by kernel_rfl) (fun β => trivial)⟩,
      tri_quietW (fun β => []) [0] [0] (fun β => [(.pointer (some ⟨b1, 0, none⟩), .pointer (some ⟨b1, 0, none⟩))]) (by kernel_rfl) (fun β extra => by kernel_rfl) (by kernel_rfl) (fun β => ⟨rfl, trivial⟩)⟩,
      tri_quietW (fun β => []) [] [] (fun β => []) (by kernel_rfl) (fun β extra => by kernel_rfl) (by kernel_rfl) (fun β => trivial)⟩,
      tri_quietW (fun β => []) [] [] (fun β => []) (by kernel_rfl) (fun β extra => by kernel_rfl) (by kernel_rfl) (fun β => trivial)⟩,
      tri_quietW (fun β => []) [] [] (fun β => []) (by kernel_rfl) (fun β extra => by kernel_rfl) (by kernel_rfl) (fun β => trivial)⟩,
      tri_callVW (fun β => .agg #[.int .i64 k, .int .i64 k]) (fun β => by kernel_rfl) 20 (fun β => #[.int .i64 k, .int .i64 k]) (by kernel_rfl) (fun β extra => by kernel_rfl) (fun β => by kernel_rfl) (fun β w1 k1 h1 => span_any k k w1)⟩,
      tri_vVW (fun β => .pointer (some ⟨b4, a * 2, none⟩)) (fun β => by kernel_rfl) (fun β => (Instr.indexAt 27 (.slice (some ⟨b4, 0, none⟩) (0 + p.bs.length) cap4) (.int .i64 (a : Int)) >>= fun v => pure (Next.value v))) (by kernel_rfl) (fun β extra => by kernel_rfl) (fun β => by kernel_rfl) (fun β w1 k1 h1 => idx_off (e := 23) (n := 2) (by kernel_rfl) (by kernel_rfl) b4 0 (0 + p.bs.length) cap4 .i64 a (by omega) (a * 2) (by omega) w1)⟩,
      tri_storeW (fun β => b4) (a * 2) 23 (fun β => .agg #[.int .i64 k, .int .i64 k]) ((([] : List (Int × Int)) ++ p.bs).flatMap spR ++ sp4) (((([] : List (Int × Int)) ++ p.bs).set a (k, k)).flatMap spR ++ sp4) 23 (by kernel_rfl) (by kernel_rfl) (fun β extra => by kernel_rfl) (fun β => by kernel_rfl) (fun β => by kernel_rfl) (fun β => flat_store (P := Try.prog) (t := 23) (c := spR) (n := 2) spR_len (by kernel_rfl) (x := (k, k)) rfl rfl (by simp; omega))⟩
      (fun β => ⟨[(3, .pointer (some ⟨b1, 0, none⟩)), (6, .pointer (some ⟨b2, 0, none⟩))], [(b4, .cells (((([] : List (Int × Int)) ++ p.bs).set a (k, k)).flatMap spR ++ sp4).toArray 23 (0, 0)), (b2, .cells #[.slice none 0 0, .int .i64 0, .int .i64 0, .int .i64 0, .int .i64 0, .slice none 0 0] 30 (0, 0)), (b1, .cells #[.slice (some ⟨b4, 0, none⟩) (0 + p.bs.length) cap4, .int .i64 p.zlo, .int .i64 p.zhi, .int .i64 p.rlo, .int .i64 p.rhi, .slice p.ra p.rs.length p.rc] 30 (0, 0))]⟩) (fun β => by kernel_rfl) (fun β5 => ?_)
  refine run_auto [] 5 [] [2, 1] [6] [0, 1] (st' := ⟨[(6, .pointer (some ⟨b2, 0, none⟩))], [(b4, .cells (((([] : List (Int × Int)) ++ p.bs).set a (k, k)).flatMap spR ++ sp4).toArray 23 (0, 0)), (b2, .cells #[.slice (some ⟨b4, 0, none⟩) (0 + p.bs.length) cap4, .int .i64 p.zlo, .int .i64 p.zhi, .int .i64 p.rlo, .int .i64 p.rhi, .slice p.ra p.rs.length p.rc] 30 (0, 0))]⟩) (acc := [(.pointer (some ⟨b2, 0, none⟩), .pointer (some ⟨b2, 0, none⟩)), (.pointer (some ⟨b1, 0, none⟩), .pointer (some ⟨b1, 0, none⟩))]) (by kernel_rfl) (by kernel_rfl) ⟨rfl, rfl, trivial⟩ ?_
  refine run_end (fn := f28) rfl (Nat.le_refl _) (by kernel_rfl) [1] [.agg #[.slice (some ⟨b4, 0, none⟩) (0 + p.bs.length) cap4, .int .i64 p.zlo, .int .i64 p.zhi, .int .i64 p.rlo, .int .i64 p.rhi, .slice p.ra p.rs.length p.rc]] (e := [(.pointer (some ⟨b2, 0, none⟩), .pointer (some ⟨b2, 0, none⟩))]) (by kernel_rfl) ⟨rfl, trivial⟩ (fun w1 k1 h1 => ?_)
  have hel : ((([] : List (Int × Int)) ++ p.bs).set a (k, k)).flatMap spR ++ sp4 = (p.bs.set a (k, k)).flatMap spR ++ sp4 := by simp
  rw [hel] at h1
  refine ⟨(b4, cap4, sp4), by simp at hqb4 ⊢; omega, ?_, k1.keeps (fun _ h => h), fun q hq => ?_, List.pairwise_singleton _ _⟩
  · show Ending.returned _ = Ending.returned _
    rw [show (p.bs.set a (k, k)).length = 0 + p.bs.length by simp; try omega]
    rfl
  · rw [List.mem_singleton] at hq
    subst hq
    exact ⟨h1 (b4, _) (List.mem_of_getElem? (i := 0) rfl), hb4⟩

end Go.Proofs.Ytmiobcnccbfknaa
