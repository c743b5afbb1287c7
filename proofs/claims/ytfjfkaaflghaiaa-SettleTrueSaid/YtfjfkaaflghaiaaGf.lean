/-
  SETTLE: a touch more; a block that nobody touches; the numbers of a list.
  SETTLE: answer; by how much a block is longer.
  SETTLE: Excess, Longer, Settled, When, All, Rests, Wait and Latest as they are called.
  SETTLE: Excess, Longer, Settled, When, All, Rests, Wait and Latest as they are called.
-/
import Derived.Test.YtfjfkaaflghaiaaGe
import Derived.WalkKit
import Derived.OwnWalk
import Derived.RegionTactic
import Derived.ChangeAlike
import Derived.Deep.QuietTactic
import Derived.BigQuiet
import Derived.BigGuardPart
import Derived.WalkLawsBesides
import Derived.Defers
import Derived.Recover
namespace Go.Proofs.Ytfjfkaaflghaiaa
open Go.RowKit Go.Proofs.Try
attribute [local irreducible] Run wpK


def zT : List Value := [.int .i64 0, .int .i64 0, .int .i64 0, .int .i64 0]
/-- With a touch more. -/
def Sb.tch (p : Sb) (t : Tc) (g : Nat) : Sb := { p with ta := some ⟨g, 0, none⟩, tc := p.ts.length + 1, ts := p.ts ++ [t] }
def Sn.tch (s : Sn) (t : Tc) : Sn := { s with ts := s.ts ++ [t] }
theorem tch_len (p : Sb) (t : Tc) (g : Nat) : (p.tch t g).ts.length = p.ts.length + 1 := by show (p.ts ++ [t]).length = _; simp
theorem tch_in {p : Sb} {t : Tc} {g : Nat} {w : World} {ty : TypeId} {fr : Nat × Nat} (hp : p.In w) (hl : p.ts.length ≤ 1000) (hg : w.heap[g]? = some (.cells ((p.ts ++ [t]).flatMap tcR).toArray ty fr)) : (p.tch t g).In w :=
  ⟨hp.bk, Tcs.of_flat (sp := []) (by rw [List.append_nil]; exact hg), hp.lb, by show (p.ts ++ [t]).length ≤ maxLen; simp only [List.length_append, List.length_singleton, maxLen]; omega⟩
/-- One block alone, with just this excess, that nobody touches. -/
def unB (b : Bk) (x : Int) : Bk := (x, x, b.2.2)
def Sn.un (s : Sn) (b : Nat) (x : Int) : Sn := ⟨[unB (elB s.bs b) x], s.near, 0, []⟩
def Sb.un (p : Sb) (b : Nat) (x : Int) (g : Nat) : Sb := ⟨some ⟨g, 0, none⟩, 1, [unB (elB p.bs b) x], p.near, 0, none, 0, []⟩
theorem un_fine {s : Sn} (h : s.Fine) {b : Nat} (hb : b < s.bs.length) {x : Int} (hx : -100 ≤ x ∧ x ≤ 100) : (s.un b x).Fine := by
  have hB := h.bkF hb
  refine ⟨Nat.le_refl _, by show 1 ≤ 4; omega, fun y hy => ?_, h.nr, by show (0 : Int) ≤ 0 ∧ (0 : Int) ≤ 60; omega, Nat.zero_le _, fun t ht => by cases ht⟩
  have e : y = unB (elB s.bs b) x := List.mem_singleton.1 hy
  subst e
  exact ⟨by show -100 ≤ x ∧ x ≤ x ∧ x ≤ 100; omega, hB.s, hB.g⟩
theorem un_in {p : Sb} {b : Nat} {x : Int} {g : Nat} {w : World} {ty : TypeId} {fr : Nat × Nat} (hg : w.heap[g]? = some (.cells (bkR (unB (elB p.bs b) x)).toArray ty fr)) : (p.un b x g).In w :=
  ⟨Bks.of_flat (L := [unB (elB p.bs b) x]) (sp := []) (by show w.heap[g]? = some (.cells (([unB (elB p.bs b) x]).flatMap bkR ++ []).toArray ty fr); simpa using hg), fun h => absurd rfl h, by show 1 ≤ maxLen; simp only [maxLen]; omega, by show 0 ≤ maxLen; exact Nat.zero_le _⟩
theorem rowL_zeroT (n : Nat) : rowL n (fun _ => zT) = rowG tcR zT [] n := by
  unfold rowL rowG
  have : ∀ l : List Nat, l.flatMap (fun _ => zT) = (List.replicate l.length zT).flatten := by
    intro l
    induction l with
    | nil => rfl
    | cons a l ih => rw [List.flatMap_cons, ih, List.length_cons, List.replicate_succ, List.flatten_cons]
  rw [this, List.length_range]
  rfl
theorem copy_tcs {b cap cs : Nat} {a : Option Addr} {L : List Tc} {w : World} (hw : w.heap[b]? = some (.cells (rowL (L.length + 1) fun _ => zT).toArray 61 (0, 0))) (hs : Tcs w a L) :
    (Builtin.copy_ #[31, 31] 3 #[.slice (some ⟨b, 0, none⟩) (L.length + 1) cap, .slice a L.length cs] >>= fun v => pure (Next.value v)).run Try.prog w = .ok (.value (.int .i64 (L.length : Int))) (w.setRow b (rowG tcR zT L (L.length + 1)).toArray) := by
  rw [rowL_zeroT] at hw
  exact copy_more (P := Try.prog) (t := 31) (ty := 3) (e := 61) (n := 4) (c := tcR) (z := zT) (cap := cap) (cs := cs) (by kernel_rfl) tcR_len tcR_one rfl (by kernel_rfl) (Nat.le_succ _) hw hs.flat
set_option maxRecDepth 100000 in
theorem touched_any (p : Sb) (t : Tc) (w : World) (hp : p.In w) (hl : p.ts.length ≤ 1000) : Calls Try.prog 60 #[.agg #[.slice p.ba p.bs.length p.bc, .int .i64 p.near, .int .i64 p.last, .slice p.ta p.ts.length p.tc], .agg #[.int .i64 t.1, .int .i64 t.2.1, .int .i64 t.2.2.1, .int .i64 t.2.2.2]] w (Nw (α := Unit) (fun _ b => .agg #[.slice p.ba p.bs.length p.bc, .int .i64 p.near, .int .i64 p.last, .slice (some ⟨b, 0, none⟩) (p.ts.length + 1) (p.ts.length + 1)]) (fun _ => .cells ((p.ts ++ [t]).flatMap tcR).toArray 61 (0, 0)) (fun _ => True) w) := by
  refine calls_run (fn := f60) (c := (f60.body).getD .skip) [.agg #[.slice p.ba p.bs.length p.bc, .int .i64 p.near, .int .i64 p.last, .slice p.ta p.ts.length p.tc], .agg #[.int .i64 t.1, .int .i64 t.2.1, .int .i64 t.2.2.1, .int .i64 t.2.2.2]] func60 (by kernel_rfl) (fun _ => False) [] (fun _ h => by cases h) (List.Pairwise.nil) 23 (by kernel_rfl) (by simp) ?_
  refine run_auto [] 2 [] [] [0, 1] [] (st' := ⟨[(0, .agg #[.slice p.ba p.bs.length p.bc, iV p.near, iV p.last, .slice p.ta p.ts.length p.tc]), (1, .agg #[iV t.1, iV t.2.1, iV t.2.2.1, iV t.2.2.2])], []⟩) (acc := []) (by kernel_rfl) (by kernel_rfl) trivial ?_
  refine run_new (aO #[.slice p.ba p.bs.length p.bc, iV p.near, iV p.last, .slice p.ta p.ts.length p.tc] 33) (fun b1 => pA b1) (some 2) (fun _ => by kernel_rfl) (fun b1 hb1 => ?_)
  refine run_new (aO #[iV t.1, iV t.2.1, iV t.2.2.1, iV t.2.2.2] 61) (fun b2 => pA b2) (some 3) (fun _ => by kernel_rfl) (fun b2 hb2 => ?_)
  refine run_new (aO #[.slice none 0 0, iV 0, iV 0, .slice none 0 0] 33) (fun b3 => pA b3) (some 4) (fun _ => by kernel_rfl) (fun b3 hb3 => ?_)
  refine run_auto [(10, iV ((p.ts.length + 1 : Nat) : Int))] 7 [] [2] [2, 3, 4, 10] [0, 1, 2] (st' := ⟨[(2, pA b1), (3, pA b2), (4, pA b3), (10, iV ((p.ts.length + 1 : Nat) : Int))], [(b3, aO #[.slice none 0 0, iV 0, iV 0, .slice none 0 0] 33), (b2, aO #[iV t.1, iV t.2.1, iV t.2.2.1, iV t.2.2.2] 61), (b1, aO #[.slice p.ba p.bs.length p.bc, iV p.near, iV p.last, .slice p.ta p.ts.length p.tc] 33)]⟩) (acc := [(iV (IntKind.i64.wrap ((p.ts.length : Int) + 1)), iV ((p.ts.length + 1 : Nat) : Int)), (pA b1, pA b1)]) (by kernel_rfl) (by kernel_rfl) ⟨((wr (by omega) (by omega)).trans (io (by omega))), rfl, trivial⟩ ?_
  refine run_mk 31 61 4 (.agg #[iV 0, iV 0, iV 0, iV 0]) (by kernel_rfl) (by kernel_rfl) (by kernel_rfl) rfl (by omega) (some 11) ((p.ts.length + 1 : Nat)) (by simp only [maxLen]; omega) (by omega) (by rw [show tyBytes _ _ = 32 from by kernel_rfl]; omega) (by kernel_rfl) (fun b4 hb4 => ?_)
  refine run_auto [] 7 [] [3] [2, 3, 4, 5, 12, 14] [0, 1, 2, 3] (st' := ⟨[(2, pA b1), (3, pA b2), (4, pA b3), (5, sV b4 (p.ts.length + 1 : Nat) (p.ts.length + 1 : Nat)), (12, sV b4 (p.ts.length + 1 : Nat) (p.ts.length + 1 : Nat)), (14, .slice p.ta p.ts.length p.tc)], [(b4, cO (rowL ((p.ts.length + 1 : Nat)) fun _ => [iV 0, iV 0, iV 0, iV 0]) 61), (b3, aO #[.slice none 0 0, iV 0, iV 0, .slice none 0 0] 33), (b2, aO #[iV t.1, iV t.2.1, iV t.2.2.1, iV t.2.2.2] 61), (b1, aO #[.slice p.ba p.bs.length p.bc, iV p.near, iV p.last, .slice p.ta p.ts.length p.tc] 33)]⟩) (acc := [(pA b1, pA b1)]) (by kernel_rfl) (by kernel_rfl) ⟨rfl, trivial⟩ ?_
  refine run_upd (Builtin.copy_ #[31, 31] 3 #[sV b4 (p.ts.length + 1 : Nat) (p.ts.length + 1 : Nat), .slice p.ta p.ts.length p.tc] >>= fun v => pure (Next.value v)) (some 15) (iV (p.ts.length : Int)) 0 b4 (rowL ((p.ts.length + 1 : Nat)) fun _ => [iV 0, iV 0, iV 0, iV 0]) (rowG tcR zT p.ts (p.ts.length + 1)) 61 (by kernel_rfl) (by kernel_rfl) (fun w1 k1 h1 => copy_tcs (h1 (b4, cO (rowL ((p.ts.length + 1 : Nat)) fun _ => [iV 0, iV 0, iV 0, iV 0]) 61) (List.mem_of_getElem? (i := 0) (by kernel_rfl))) (hp.keep (k1.keeps (fun _ h => h))).tk) ?_
  refine run_auto [] 7 [] [2] [2, 4, 5, 16, 17, 18] [0, 1, 3] (st' := ⟨[(2, pA b1), (4, pA b3), (5, sV b4 (p.ts.length + 1 : Nat) (p.ts.length + 1 : Nat)), (16, sV b4 (p.ts.length + 1 : Nat) (p.ts.length + 1 : Nat)), (17, iV (p.ts.length : Int)), (18, .agg #[iV t.1, iV t.2.1, iV t.2.2.1, iV t.2.2.2])], [(b4, cO (rowG tcR zT p.ts (p.ts.length + 1)) 61), (b3, aO #[.slice none 0 0, iV 0, iV 0, .slice none 0 0] 33), (b1, aO #[.slice p.ba p.bs.length p.bc, iV p.near, iV p.last, .slice p.ta p.ts.length p.tc] 33)]⟩) (acc := [(pA b2, pA b2)]) (by kernel_rfl) (by kernel_rfl) ⟨rfl, trivial⟩ ?_
  refine run_v (Instr.indexAt 31 (sV b4 (p.ts.length + 1 : Nat) (p.ts.length + 1 : Nat)) (iV (p.ts.length : Int)) >>= fun v => pure (Next.value v)) (some 19) (.pointer (some ⟨b4, p.ts.length * 4, none⟩)) (by kernel_rfl) (fun w1 k1 h1 => idx_off (e := 61) (n := 4) (by kernel_rfl) (by kernel_rfl) b4 (0) (p.ts.length + 1 : Nat) (p.ts.length + 1 : Nat) .i64 p.ts.length (by omega) (p.ts.length * 4) (by omega) w1) ?_
  refine run_store 0 b4 (p.ts.length * 4) 61 (.agg #[iV t.1, iV t.2.1, iV t.2.2.1, iV t.2.2.2]) (rowG tcR zT p.ts (p.ts.length + 1)) ((p.ts ++ [t]).flatMap tcR) 61 (by kernel_rfl) (by kernel_rfl) (store_last (n := 4) (by kernel_rfl) tcR_len tcR_one rfl (by rfl)) ?_
  refine run_auto [] 12 [] [2, 2, 1] [4] [0, 1] (st' := ⟨[(4, pA b3)], [(b4, cO ((p.ts ++ [t]).flatMap tcR) 61), (b3, aO #[.slice p.ba p.bs.length p.bc, iV p.near, iV p.last, sV b4 (p.ts.length + 1 : Nat) (p.ts.length + 1 : Nat)] 33)]⟩) (acc := [(pA b3, pA b3), (pA b1, pA b1), (pA b1, pA b1)]) (by kernel_rfl) (by kernel_rfl) ⟨rfl, rfl, rfl, trivial⟩ ?_
  refine run_end (fn := f60) rfl (Nat.le_refl _) (by kernel_rfl) [1] [.agg #[.slice p.ba p.bs.length p.bc, iV p.near, iV p.last, sV b4 (p.ts.length + 1 : Nat) (p.ts.length + 1 : Nat)]] (e := [(pA b3, pA b3)]) (by kernel_rfl) ⟨rfl, trivial⟩ (fun w1 k1 h1 => ?_)
  exact ⟨(), b4, trivial, hb4, rfl, k1.keeps (fun _ h => h), h1 (b4, _) (List.mem_of_getElem? (i := 0) rfl)⟩

set_option maxRecDepth 100000 in
theorem untouched_any (p : Sb) (b : Nat) (xx : Int) (w : World) (hp : p.In w) (hb : b < p.bs.length) : Calls Try.prog 51 #[.agg #[.slice p.ba p.bs.length p.bc, .int .i64 p.near, .int .i64 p.last, .slice p.ta p.ts.length p.tc], .int .i64 (b : Int), .int .i64 xx] w (NwL (α := Nat × Nat) (fun x => .agg #[.slice (some ⟨(x.1), 0, none⟩) 1 1, .int .i64 p.near, .int .i64 0, .slice none 0 0, .map (some (x.2))]) (fun x => [((x.1), .cells #[.int .i64 xx, .int .i64 xx, .int .i64 (elB p.bs b).2.2.1, .int .i64 (elB p.bs b).2.2.2.1, .int .i64 (elB p.bs b).2.2.2.2.1, .int .i64 (elB p.bs b).2.2.2.2.2] 54 (0, 0)), ((x.2), memO kvM (vvM (p.n.un b xx)) [])]) (fun _ => True) w) := by
  obtain ⟨bq, oq, hbq, hcq⟩ := hp.bk (by intro h; rw [h] at hb; cases hb)
  have hcq := hcq b hb
  refine calls_run (fn := f51) (c := (f51.body).getD .skip) [.agg #[.slice p.ba p.bs.length p.bc, .int .i64 p.near, .int .i64 p.last, .slice p.ta p.ts.length p.tc], .int .i64 (b : Int), .int .i64 xx] func51 (by kernel_rfl) (fun _ => False) [] (fun _ h => by cases h) (List.Pairwise.nil) 22 (by kernel_rfl) (by simp) ?_
  refine run_auto [] 2 [] [] [0, 1, 2] [] (st' := ⟨[(0, .agg #[.slice p.ba p.bs.length p.bc, iV p.near, iV p.last, .slice p.ta p.ts.length p.tc]), (1, iV (b : Int)), (2, iV xx)], []⟩) (acc := []) (by kernel_rfl) (by kernel_rfl) trivial ?_
  refine run_new (aO #[.slice p.ba p.bs.length p.bc, iV p.near, iV p.last, .slice p.ta p.ts.length p.tc] 33) (fun b1 => pA b1) (some 3) (fun _ => by kernel_rfl) (fun b1 hb1 => ?_)
  refine run_new (aO #[.slice none 0 0, iV 0, iV 0, .slice none 0 0, .map none] 73) (fun b2 => pA b2) (some 6) (fun _ => by kernel_rfl) (fun b2 hb2 => ?_)
  refine run_auto [] 6 [] [1] [2, 3, 6, 9, 10] [0, 1] (st' := ⟨[(2, iV xx), (3, pA b1), (6, pA b2), (9, .slice p.ba p.bs.length p.bc), (10, iV (b : Int))], [(b2, aO #[.slice none 0 0, iV 0, iV 0, .slice none 0 0, .map none] 73), (b1, aO #[.slice p.ba p.bs.length p.bc, iV p.near, iV p.last, .slice p.ta p.ts.length p.tc] 33)]⟩) (acc := [(pA b1, pA b1)]) (by kernel_rfl) (by kernel_rfl) ⟨rfl, trivial⟩ ?_
  refine run_v (Instr.indexAt 30 (.slice p.ba p.bs.length p.bc) (iV (b : Int)) >>= fun v => pure (Next.value v)) (some 11) (.pointer (some ⟨bq, oq + b * 6, none⟩)) (by kernel_rfl) (fun w1 k1 h1 => (by rw [hbq]; exact idx_off (e := 54) (n := 6) (by kernel_rfl) (by kernel_rfl) bq oq p.bs.length p.bc .i64 b hb (oq + b * 6) (by omega) w1)) ?_
  refine run_v (Instr.loadAt 54 (.pointer (some ⟨bq, oq + b * 6, none⟩)) >>= fun v => pure (Next.value v)) (some 12) (.agg #[iV (elB p.bs b).1, iV (elB p.bs b).2.1, iV (elB p.bs b).2.2.1, iV (elB p.bs b).2.2.2.1, iV (elB p.bs b).2.2.2.2.1, iV (elB p.bs b).2.2.2.2.2]) (by kernel_rfl) (fun w1 k1 h1 => load_in (off := 0) k1 (fun h => h) [iV (elB p.bs b).1, iV (elB p.bs b).2.1, iV (elB p.bs b).2.2.1, iV (elB p.bs b).2.2.2.1, iV (elB p.bs b).2.2.2.2.1, iV (elB p.bs b).2.2.2.2.2] (c6 hcq.1 hcq.2.1 hcq.2.2.1 hcq.2.2.2.1 hcq.2.2.2.2.1 hcq.2.2.2.2.2) (by kernel_rfl)) ?_
  refine run_new (aO #[iV 0, iV 0, iV 0, iV 0, iV 0, iV 0] 54) (fun b3 => pA b3) (some 7) (fun _ => by kernel_rfl) (fun b3 hb3 => ?_)
  refine run_auto [] 5 [] [0] [3, 6, 7, 13] [0, 1, 2] (st' := ⟨[(3, pA b1), (6, pA b2), (7, pA b3), (13, iV xx)], [(b3, aO #[iV (elB p.bs b).1, iV (elB p.bs b).2.1, iV (elB p.bs b).2.2.1, iV (elB p.bs b).2.2.2.1, iV (elB p.bs b).2.2.2.2.1, iV (elB p.bs b).2.2.2.2.2] 54), (b2, aO #[.slice none 0 0, iV 0, iV 0, .slice none 0 0, .map none] 73), (b1, aO #[.slice p.ba p.bs.length p.bc, iV p.near, iV p.last, .slice p.ta p.ts.length p.tc] 33)]⟩) (acc := [(pA b3, pA b3)]) (by kernel_rfl) (by kernel_rfl) ⟨rfl, trivial⟩ ?_
  refine run_ret1 59 #[iV xx] (some 14) (.agg #[iV xx, iV xx]) (by kernel_rfl) (fun w1 k1 h1 => exactly_any xx w1) ?_
  refine run_auto [] 6 [] [0, 0] [3, 6, 16] [1, 2] (st' := ⟨[(3, pA b1), (6, pA b2), (16, .agg #[iV xx, iV xx, iV (elB p.bs b).2.2.1, iV (elB p.bs b).2.2.2.1, iV (elB p.bs b).2.2.2.2.1, iV (elB p.bs b).2.2.2.2.2])], [(b2, aO #[.slice none 0 0, iV 0, iV 0, .slice none 0 0, .map none] 73), (b1, aO #[.slice p.ba p.bs.length p.bc, iV p.near, iV p.last, .slice p.ta p.ts.length p.tc] 33)]⟩) (acc := [(pA b3, pA b3), (pA b3, pA b3)]) (by kernel_rfl) (by kernel_rfl) ⟨rfl, rfl, trivial⟩ ?_
  refine run_new (aO #[iV xx, iV xx, iV (elB p.bs b).2.2.1, iV (elB p.bs b).2.2.2.1, iV (elB p.bs b).2.2.2.2.1, iV (elB p.bs b).2.2.2.2.2] 54) (fun b4 => sV b4 1 1) (some 17) (fun _ => by kernel_rfl) (fun b4 hb4 => ?_)
  refine run_auto [] 3 [] [2] [6, 20] [0, 1] (st' := ⟨[(6, pA b2), (20, .agg #[sV b4 1 1, iV p.near, iV 0, .slice none 0 0])], [(b4, aO #[iV xx, iV xx, iV (elB p.bs b).2.2.1, iV (elB p.bs b).2.2.2.1, iV (elB p.bs b).2.2.2.2.1, iV (elB p.bs b).2.2.2.2.2] 54), (b2, aO #[.slice none 0 0, iV 0, iV 0, .slice none 0 0, .map none] 73)]⟩) (acc := [(pA b1, pA b1)]) (by kernel_rfl) (by kernel_rfl) ⟨rfl, trivial⟩ ?_
  refine run_nw 35 #[.agg #[sV b4 1 1, iV p.near, iV 0, .slice none 0 0]] (some 21) (α := Unit) (fun _u b5 => .agg #[sV b4 1 1, iV p.near, iV 0, .slice none 0 0, .map (some b5)]) (fun _u => memO kvM (vvM (p.n.un b xx)) []) (fun _u => True) (by kernel_rfl) (fun _ => rfl) (fun w1 k1 h1 => plateOf_any (p.un b xx b4) w1) (fun _u b5 hIb5 hb5 => ?_)
  refine run_auto [] 2 [] [2] [6] [0, 1, 2] (st' := ⟨[(6, pA b2)], [(b5, memO kvM (vvM (p.n.un b xx)) []), (b4, aO #[iV xx, iV xx, iV (elB p.bs b).2.2.1, iV (elB p.bs b).2.2.2.1, iV (elB p.bs b).2.2.2.2.1, iV (elB p.bs b).2.2.2.2.2] 54), (b2, aO #[sV b4 1 1, iV p.near, iV 0, .slice none 0 0, .map (some b5)] 73)]⟩) (acc := [(pA b2, pA b2)]) (by kernel_rfl) (by kernel_rfl) ⟨rfl, trivial⟩ ?_
  refine run_endP (fn := f51) rfl (Nat.le_refl _) (by kernel_rfl) [2] [.agg #[sV b4 1 1, iV p.near, iV 0, .slice none 0 0, .map (some b5)]] (e := [(pA b2, pA b2)]) (by kernel_rfl) ⟨rfl, trivial⟩ (fun w1 k1 h1 hne1 => ?_)
  refine ⟨(b4, b5), trivial, rfl, k1.keeps (fun _ h => h), fun q hq => ?_, ?_⟩
  · simp only [List.mem_cons, List.not_mem_nil, or_false] at hq
    rcases hq with rfl | rfl
    · exact ⟨h1 (b4, _) (List.mem_of_getElem? (i := 1) rfl), hb4⟩
    · exact ⟨h1 (b5, _) (List.mem_of_getElem? (i := 0) rfl), hb5⟩
  · exact pick_pairs hne1 [1, 0] rfl (by decide)


def numL (n : Nat) : List Int := (List.range n).map fun (i : Nat) => (i : Int)
theorem numL_next (n : Nat) : numL (n + 1) = numL n ++ [(n : Int)] := by unfold numL; rw [List.range_succ, List.map_append]; rfl
theorem numL_len (n : Nat) : (numL n).length = n := by unfold numL; rw [List.length_map, List.length_range]
set_option maxRecDepth 100000 in
theorem numbersOf_any (p : Sb) (w : World) (hl1 : 1 ≤ p.bs.length) (hl4 : p.bs.length ≤ 4) : Calls Try.prog 68 #[.slice p.ba p.bs.length p.bc] w (NwL (α := Nat × Nat × Nat) (fun a => .slice (some ⟨a.1, 0, none⟩) p.bs.length (p.bs.length + a.2.1)) (fun a => [(a.1, .cells ((numL p.bs.length).flatMap inR ++ zR a.2.1).toArray 3 (0, 0))]) (fun _ => True) w) := by
  refine calls_run (fn := f68) (c := (f68.body).getD .skip) [.slice p.ba p.bs.length p.bc] func68 (by kernel_rfl) (fun _ => False) [] (fun _ h => by cases h) (List.Pairwise.nil) 16 (by kernel_rfl) (by simp) ?_
  refine run_auto [] 16 [] [] [2, 3, 6, 7] [] (st' := ⟨[(2, .slice none 0 0), (3, .slice none 0 0), (6, iV (p.bs.length : Int)), (7, iV 0)], []⟩) (acc := []) (by kernel_rfl) (by kernel_rfl) trivial ?_
  refine run_auto [] 0 [] [] [2, 3, 6, 7] [] (st' := ⟨[(2, .slice none 0 0), (3, .slice none 0 0), (6, iV (p.bs.length : Int)), (7, iV 0)], []⟩) (acc := []) (by kernel_rfl) (by kernel_rfl) trivial ?_
  refine run_loop (S := fun (v : Nat × Option (Nat × Nat)) => match v with | (i, none) => ⟨[(2, .slice none 0 0), (3, .slice none 0 0), (6, iV (p.bs.length : Int)), (7, iV (i : Int))], []⟩ | (i, some (g, x)) => ⟨[(2, .slice none 0 0), (3, sV g i (i + x)), (6, iV (p.bs.length : Int)), (7, iV (i : Int))], [(g, cO ((numL i).flatMap inR ++ zR x) 3)]⟩) (fun v => v.1 ≤ p.bs.length ∧ match v.2 with | none => v.1 = 0 | some (g, x) => 1 ≤ v.1 ∧ w.heap.size ≤ g) (fun v => p.bs.length - v.1) ((0, none)) (by kernel_rfl) (⟨Nat.zero_le _, rfl⟩) (by simp) (fun v hI0 J0 hJ0 => ?_)
  obtain ⟨i, _ | ⟨g, x⟩⟩ := v
  · skip
    obtain ⟨hz1, hz2⟩ := hI0
    dsimp only at hz1 hz2
    have hnl := numL_len i
    cases hd1 : (decide ((i : Int) < (p.bs.length : Int))) with
    | false =>
      have hp1 := of_decide_eq_false hd1
      refine run_auto [(8, .bool false)] 12 [false] [] [2] [] (st' := ⟨[(2, .slice none 0 0)], []⟩) (acc := [(.bool false, .bool false), (.bool (decide ((i : Int) < (p.bs.length : Int))), .bool false)]) (by kernel_rfl) (by kernel_rfl) ⟨rfl, (bo hd1), trivial⟩ ?_
      refine run_end (fn := f68) rfl (Nat.le_refl _) (by kernel_rfl) [] [.slice none 0 0] (e := []) (by kernel_rfl) trivial (fun w1 k1 h1 => ?_)
      have hin : i = p.bs.length := by omega
      exfalso
      omega
    | true =>
      have hp1 := of_decide_eq_true hd1
      refine run_auto [(8, .bool true)] 17 [true] [] [2, 3, 6, 7, 10, 11] [] (st' := ⟨[(2, .slice none 0 0), (3, .slice none 0 0), (6, iV (p.bs.length : Int)), (7, iV (i : Int)), (10, .slice none 0 0), (11, iV (i : Int))], []⟩) (acc := [(.bool true, .bool true), (.bool (decide ((i : Int) < (p.bs.length : Int))), .bool true)]) (by kernel_rfl) (by kernel_rfl) ⟨rfl, (bo hd1), trivial⟩ ?_
      refine run_new (aO #[iV (i : Int)] 3) (fun b1 => sV b1 1 1) (some 12) (fun _ => by kernel_rfl) (fun b1 hb1 => ?_)
      refine run_appZ_none (t := 46) (ty := 46) (e := 3) (by kernel_rfl) (by kernel_rfl) (by kernel_rfl) (by kernel_rfl) inR inR_len (some 13) 1 1 ([(i : Int)] : List Int) ⟨b1, 0, none⟩ (by first | rfl | omega | (simp; done) | (simp; omega)) (by omega) (by kernel_rfl) (fun w1 k1 h1 jq uq hu => by rw [add_none, Nat.zero_add]; exact cells_of_heap (h1 (b1, aO #[iV (i : Int)] 3) (List.mem_of_getElem? (i := 0) (by kernel_rfl))) jq uq hu) (by omega) (fun b2 x2 hb2 => ?_)
      refine run_auto [(14, iV ((i + 1 : Nat) : Int))] 7 [] [] [2, 3, 6, 7] [0] (st' := ⟨[(2, .slice none 0 0), (3, sV b2 1 (1 + x2)), (6, iV (p.bs.length : Int)), (7, iV ((i + 1 : Nat) : Int))], [(b2, cO ((([(i : Int)] : List Int)).flatMap inR ++ zR x2) 3)]⟩) (acc := [(iV (IntKind.i64.wrap ((i : Int) + 1)), iV ((i + 1 : Nat) : Int))]) (by kernel_rfl) (by kernel_rfl) ⟨(wr (by omega) (by omega)), trivial⟩ ?_
      have hst := numL_next i
      rw [show numL i = [] from by rw [hz2]; rfl, List.nil_append] at hst
      skip
      have hj := hJ0 ((i + 1, some (b2, x2))) (⟨by dsimp only; omega, by dsimp only; omega, hb2⟩) (by dsimp only; omega)
      dsimp only at hj
      rw [hst] at hj
      have hz3 : i + 1 = 1 := by omega
      skip
      exact run_round (by kernel_rfl) (by rw [hz2] at hj ⊢; exact hj)
  · skip
    obtain ⟨hz1, hz2⟩ := hI0
    dsimp only at hz1 hz2
    have hnl := numL_len i
    obtain ⟨hz3, hz4⟩ := hz2
    cases hd1 : (decide ((i : Int) < (p.bs.length : Int))) with
    | false =>
      have hp1 := of_decide_eq_false hd1
      refine run_auto [(8, .bool false)] 12 [false] [] [2] [0] (st' := ⟨[(2, sV g i (i + x))], [(g, cO ((numL i).flatMap inR ++ zR x) 3)]⟩) (acc := [(.bool false, .bool false), (.bool (decide ((i : Int) < (p.bs.length : Int))), .bool false)]) (by kernel_rfl) (by kernel_rfl) ⟨rfl, (bo hd1), trivial⟩ ?_
      refine run_end (fn := f68) rfl (Nat.le_refl _) (by kernel_rfl) [] [sV g i (i + x)] (e := []) (by kernel_rfl) trivial (fun w1 k1 h1 => ?_)
      have hin : i = p.bs.length := by omega
      subst hin
      refine ⟨(g, x, 0), trivial, rfl, k1.keeps (fun _ h => h), fun q hq => ?_, List.pairwise_singleton _ _⟩
      rw [List.mem_singleton] at hq
      subst hq
      exact ⟨h1 (g, _) (List.mem_of_getElem? (i := 0) rfl), hz4⟩
    | true =>
      have hp1 := of_decide_eq_true hd1
      refine run_auto [(8, .bool true)] 17 [true] [] [2, 3, 6, 7, 10, 11] [0] (st' := ⟨[(2, .slice none 0 0), (3, sV g i (i + x)), (6, iV (p.bs.length : Int)), (7, iV (i : Int)), (10, sV g i (i + x)), (11, iV (i : Int))], [(g, cO ((numL i).flatMap inR ++ zR x) 3)]⟩) (acc := [(.bool true, .bool true), (.bool (decide ((i : Int) < (p.bs.length : Int))), .bool true)]) (by kernel_rfl) (by kernel_rfl) ⟨rfl, (bo hd1), trivial⟩ ?_
      refine run_new (aO #[iV (i : Int)] 3) (fun b1 => sV b1 1 1) (some 12) (fun _ => by kernel_rfl) (fun b1 hb1 => ?_)
      refine run_appZ (t := 46) (ty := 46) (e := 3) (by kernel_rfl) (by kernel_rfl) (by kernel_rfl) (by kernel_rfl) inR inR_len inR_one (some 13) 1 g i x 1 1 (numL i) ([(i : Int)] : List Int) ⟨b1, 0, none⟩ (by first | rfl | omega | (simp; done) | (simp; omega)) (by first | rfl | omega | (simp; done) | (simp; omega)) (by kernel_rfl) (by kernel_rfl) (fun w1 k1 h1 jq uq hu => by rw [add_none, Nat.zero_add]; exact cells_of_heap (h1 (b1, aO #[iV (i : Int)] 3) (List.mem_of_getElem? (i := 0) (by kernel_rfl))) jq uq hu) (by omega) hz4 (fun b2 x2 hb2 => ?_)
      refine run_auto [(14, iV ((i + 1 : Nat) : Int))] 7 [] [] [2, 3, 6, 7] [0] (st' := ⟨[(2, .slice none 0 0), (3, sV b2 (i + 1) (i + 1 + x2)), (6, iV (p.bs.length : Int)), (7, iV ((i + 1 : Nat) : Int))], [(b2, cO ((numL i ++ ([(i : Int)] : List Int)).flatMap inR ++ zR x2) 3)]⟩) (acc := [(iV (IntKind.i64.wrap ((i : Int) + 1)), iV ((i + 1 : Nat) : Int))]) (by kernel_rfl) (by kernel_rfl) ⟨(wr (by omega) (by omega)), trivial⟩ ?_
      have hst := numL_next i
      have hj := hJ0 ((i + 1, some (b2, x2))) (⟨by dsimp only; omega, by dsimp only; omega, hb2⟩) (by dsimp only; omega)
      dsimp only at hj
      rw [hst] at hj
      exact run_round (by kernel_rfl) hj

end Go.Proofs.Ytfjfkaaflghaiaa

namespace Go.Proofs.Ytfjfkaaflghaiaa
open Go.RowKit Go.Proofs.Try
attribute [local irreducible] Run wpK

theorem run_errno (k : Int) (w : World) : (Instr.typeAssert (.iface 27 (.int .i64 k)) 20 27 true).run Try.prog w = .ok (.tuple #[.int .i64 k, .bool true]) w := by kernel_rfl
set_option maxHeartbeats 400000 in
theorem errorOf_any (k : Int) (w : World) : Calls Try.prog 71 #[.iface 27 (.int .i64 k)] w fun e w' => e = .returned (.int .i64 k) ∧ w = w' := by
  have h := run_errno k
  go_enter Try.func71, Try.ntmps71
  go_wp2
  go_ret
  exact ⟨rfl, rfl⟩

theorem catch_pan_sl (p : Addr) (k : Int) (older : List PanicEntry) (w : World) (hc : w.cell? p = some (.int .i64 0)) (hz : w.frozen? p = false) :
    CallsD Try.prog 87 #[.pointer (some p)] (.panicking ({ v := .iface 27 (.int .i64 k), recovered := false } :: older)) w fun e u' w' =>
      e = .returned (.tuple #[]) ∧ u' = .panicking ({ v := .iface 27 (.int .i64 k), recovered := true } :: older) ∧ w' = w.setCell p (.int .i64 k) := by
  refine callsD_of_wpS Try.func87 rfl fun c₀ cs hu => ?_
  apply wpS_seq
  apply wpS_region
  simp [wpOpsS, go_sem, recoverD, hu, Try.ntmps87, Exit.thenS]
  refine wpS_of_wp ?_
  go_wp2_with (go_at_call 71; refine (errorOf_any k _).mono ?_; rintro e w' ⟨rfl, rfl⟩)
  simp [bodyPostS, results, Try.results87]
theorem catch_idle_sl (p : Addr) (w : World) :
    CallsD Try.prog 87 #[.pointer (some p)] .returning w fun e u' w' => e = .returned (.tuple #[]) ∧ u' = .returning ∧ w = w' := by
  refine callsD_of_wpS Try.func87 rfl fun c₀ cs hu => ?_
  apply wpS_seq
  apply wpS_region
  simp [wpOpsS, go_sem, recoverD, hu, Try.ntmps87, Exit.thenS]
  refine wpS_of_wp ?_
  go_wp2_with fail
  cases c₀
  simp_all [bodyPostS, results, Try.results87]
set_option maxHeartbeats 400000 in
theorem answer_ok_sl (K : Nat) (caps : Array Value) (w : World) (R : Value → World → Prop) (hcf : ∀ w, (callFunc K caps).run Try.prog w = .ok (.enter K caps) w)
    (hR : ∀ v wa u, R v wa → R v (wa.setCell ⟨w.heap.size, 0, none⟩ u))
    (h : Calls Try.prog K caps (w.alloc (.cells #[.int .i64 0] 27)) (fun e w' => ∃ v, e = .returned v ∧ R v w' ∧ Keeps (w.alloc (.cells #[.int .i64 0] 27)) w')) :
    Calls Try.prog 46 #[.func (.func K) #[] caps] w (fun e w' => ∃ v, e = .returned (.tuple #[v, .int .i64 0]) ∧ R v w' ∧ Keeps w w') := by
  have hmf : ∀ (fn : Fn) (first cap : Array Value) (w : World), (Instr.makeFunc fn first cap).run Try.prog w = .ok (.func fn first cap) w := fun _ _ _ _ => rfl
  have HR := Lib.hid hR
  clear hR
  go_enter_defers Try.func46, Try.ntmps46
  go_wp2_with fail
  refine h.mono ?_
  rintro e w1 ⟨v, rfl, hR1, hk⟩
  have hc1 := hk.cells
  have hz1 : w.heap.size < w1.heap.size := by have := hk.size; simp at this; omega
  go_wp2_with fail
  refine leaves_cons (f := 87) (args := #[.pointer (some ⟨w.heap.size, 0, none⟩)]) (by simp) (by simp [go_sem]) ?_
  refine (catch_idle_sl ⟨w.heap.size, 0, none⟩ _).mono ?_
  rintro e u' w'' ⟨rfl, rfl, rfl⟩
  refine ⟨.tuple #[v, .int .i64 0], ?_, v, rfl, HR.out _ _ _ hR1, (((Keeps.refl _).alloc _).trans hk).setCell _ (Nat.le_refl _)⟩
  have hc2 : (w1.setCell ⟨w.heap.size, 0, none⟩ (.int .i64 0)).cell? ⟨w.heap.size, 0, none⟩ = some (.int .i64 0) := World.cell?_setCell_same' _ _ _ (by rw [hc1.1 _ _ (by simp)]; simp)
  simp [results, Try.results46, go_sem, hc2]
set_option maxHeartbeats 400000 in
theorem answer_pan_sl (K : Nat) (caps : Array Value) (w : World) (k : Int) (hcf : ∀ w, (callFunc K caps).run Try.prog w = .ok (.enter K caps) w)
    (h : Calls Try.prog K caps (w.alloc (.cells #[.int .i64 0] 27)) (Pan k (w.alloc (.cells #[.int .i64 0] 27)))) :
    Calls Try.prog 46 #[.func (.func K) #[] caps] w (Ret (.tuple #[.slice none 0 0, .int .i64 k]) w) := by
  have hmf : ∀ (fn : Fn) (first cap : Array Value) (w : World), (Instr.makeFunc fn first cap).run Try.prog w = .ok (.func fn first cap) w := fun _ _ _ _ => rfl
  go_enter_defers Try.func46, Try.ntmps46
  go_wp2_with fail
  refine h.mono ?_
  rintro e w1 ⟨rfl, hk⟩
  have hc1 := hk.cells
  have hz1 : w.heap.size < w1.heap.size := by have := hk.size; simp at this; omega
  refine leaves_cons (f := 87) (args := #[.pointer (some ⟨w.heap.size, 0, none⟩)]) (by simp) (by simp [go_sem]) ?_
  refine (catch_pan_sl ⟨w.heap.size, 0, none⟩ k [] _ ?_ ?_).mono ?_
  · rw [hc1.1 _ _ (by simp)]; simp [go_sem]
  · rw [hc1.2 _ _ (by simp)]; simp [go_sem]
  rintro e u' w'' ⟨rfl, rfl, rfl⟩
  refine ⟨.tuple #[.slice none 0 0, .int .i64 k], ?_, rfl, (((Keeps.refl _).alloc _).trans hk).setCell _ (Nat.le_refl _)⟩
  have hc2 : (w1.setCell ⟨w.heap.size, 0, none⟩ (.int .i64 k)).cell? ⟨w.heap.size, 0, none⟩ = some (.int .i64 k) := World.cell?_setCell_same' _ _ _ (by rw [hc1.1 _ _ (by simp)]; simp [go_sem])
  simp [results, Try.results46, go_sem, hc2]
theorem catch_pan_int (p : Addr) (k : Int) (older : List PanicEntry) (w : World) (hc : w.cell? p = some (.int .i64 0)) (hz : w.frozen? p = false) :
    CallsD Try.prog 85 #[.pointer (some p)] (.panicking ({ v := .iface 27 (.int .i64 k), recovered := false } :: older)) w fun e u' w' =>
      e = .returned (.tuple #[]) ∧ u' = .panicking ({ v := .iface 27 (.int .i64 k), recovered := true } :: older) ∧ w' = w.setCell p (.int .i64 k) := by
  refine callsD_of_wpS Try.func85 rfl fun c₀ cs hu => ?_
  apply wpS_seq
  apply wpS_region
  simp [wpOpsS, go_sem, recoverD, hu, Try.ntmps85, Exit.thenS]
  refine wpS_of_wp ?_
  go_wp2_with (go_at_call 71; refine (errorOf_any k _).mono ?_; rintro e w' ⟨rfl, rfl⟩)
  simp [bodyPostS, results, Try.results85]
theorem catch_idle_int (p : Addr) (w : World) :
    CallsD Try.prog 85 #[.pointer (some p)] .returning w fun e u' w' => e = .returned (.tuple #[]) ∧ u' = .returning ∧ w = w' := by
  refine callsD_of_wpS Try.func85 rfl fun c₀ cs hu => ?_
  apply wpS_seq
  apply wpS_region
  simp [wpOpsS, go_sem, recoverD, hu, Try.ntmps85, Exit.thenS]
  refine wpS_of_wp ?_
  go_wp2_with fail
  cases c₀
  simp_all [bodyPostS, results, Try.results85]
set_option maxHeartbeats 400000 in
theorem answer_ok_int (K : Nat) (caps : Array Value) (w : World) (R : Value → World → Prop) (hcf : ∀ w, (callFunc K caps).run Try.prog w = .ok (.enter K caps) w)
    (hR : ∀ v wa u, R v wa → R v (wa.setCell ⟨w.heap.size, 0, none⟩ u))
    (h : Calls Try.prog K caps (w.alloc (.cells #[.int .i64 0] 27)) (fun e w' => ∃ v, e = .returned v ∧ R v w' ∧ Keeps (w.alloc (.cells #[.int .i64 0] 27)) w')) :
    Calls Try.prog 40 #[.func (.func K) #[] caps] w (fun e w' => ∃ v, e = .returned (.tuple #[v, .int .i64 0]) ∧ R v w' ∧ Keeps w w') := by
  have hmf : ∀ (fn : Fn) (first cap : Array Value) (w : World), (Instr.makeFunc fn first cap).run Try.prog w = .ok (.func fn first cap) w := fun _ _ _ _ => rfl
  have HR := Lib.hid hR
  clear hR
  go_enter_defers Try.func40, Try.ntmps40
  go_wp2_with fail
  refine h.mono ?_
  rintro e w1 ⟨v, rfl, hR1, hk⟩
  have hc1 := hk.cells
  have hz1 : w.heap.size < w1.heap.size := by have := hk.size; simp at this; omega
  go_wp2_with fail
  refine leaves_cons (f := 85) (args := #[.pointer (some ⟨w.heap.size, 0, none⟩)]) (by simp) (by simp [go_sem]) ?_
  refine (catch_idle_int ⟨w.heap.size, 0, none⟩ _).mono ?_
  rintro e u' w'' ⟨rfl, rfl, rfl⟩
  refine ⟨.tuple #[v, .int .i64 0], ?_, v, rfl, HR.out _ _ _ hR1, (((Keeps.refl _).alloc _).trans hk).setCell _ (Nat.le_refl _)⟩
  have hc2 : (w1.setCell ⟨w.heap.size, 0, none⟩ (.int .i64 0)).cell? ⟨w.heap.size, 0, none⟩ = some (.int .i64 0) := World.cell?_setCell_same' _ _ _ (by rw [hc1.1 _ _ (by simp)]; simp)
  simp [results, Try.results40, go_sem, hc2]
set_option maxHeartbeats 400000 in
theorem answer_pan_int (K : Nat) (caps : Array Value) (w : World) (k : Int) (hcf : ∀ w, (callFunc K caps).run Try.prog w = .ok (.enter K caps) w)
    (h : Calls Try.prog K caps (w.alloc (.cells #[.int .i64 0] 27)) (Pan k (w.alloc (.cells #[.int .i64 0] 27)))) :
    Calls Try.prog 40 #[.func (.func K) #[] caps] w (Ret (.tuple #[.int .i64 0, .int .i64 k]) w) := by
  have hmf : ∀ (fn : Fn) (first cap : Array Value) (w : World), (Instr.makeFunc fn first cap).run Try.prog w = .ok (.func fn first cap) w := fun _ _ _ _ => rfl
  go_enter_defers Try.func40, Try.ntmps40
  go_wp2_with fail
  refine h.mono ?_
  rintro e w1 ⟨rfl, hk⟩
  have hc1 := hk.cells
  have hz1 : w.heap.size < w1.heap.size := by have := hk.size; simp at this; omega
  refine leaves_cons (f := 85) (args := #[.pointer (some ⟨w.heap.size, 0, none⟩)]) (by simp) (by simp [go_sem]) ?_
  refine (catch_pan_int ⟨w.heap.size, 0, none⟩ k [] _ ?_ ?_).mono ?_
  · rw [hc1.1 _ _ (by simp)]; simp [go_sem]
  · rw [hc1.2 _ _ (by simp)]; simp [go_sem]
  rintro e u' w'' ⟨rfl, rfl, rfl⟩
  refine ⟨.tuple #[.int .i64 0, .int .i64 k], ?_, rfl, (((Keeps.refl _).alloc _).trans hk).setCell _ (Nat.le_refl _)⟩
  have hc2 : (w1.setCell ⟨w.heap.size, 0, none⟩ (.int .i64 k)).cell? ⟨w.heap.size, 0, none⟩ = some (.int .i64 k) := World.cell?_setCell_same' _ _ _ (by rw [hc1.1 _ _ (by simp)]; simp [go_sem])
  simp [results, Try.results40, go_sem, hc2]
theorem catch_pan_span (p : Addr) (k : Int) (older : List PanicEntry) (w : World) (hc : w.cell? p = some (.int .i64 0)) (hz : w.frozen? p = false) :
    CallsD Try.prog 70 #[.pointer (some p)] (.panicking ({ v := .iface 27 (.int .i64 k), recovered := false } :: older)) w fun e u' w' =>
      e = .returned (.tuple #[]) ∧ u' = .panicking ({ v := .iface 27 (.int .i64 k), recovered := true } :: older) ∧ w' = w.setCell p (.int .i64 k) := by
  refine callsD_of_wpS Try.func70 rfl fun c₀ cs hu => ?_
  apply wpS_seq
  apply wpS_region
  simp [wpOpsS, go_sem, recoverD, hu, Try.ntmps70, Exit.thenS]
  refine wpS_of_wp ?_
  go_wp2_with (go_at_call 71; refine (errorOf_any k _).mono ?_; rintro e w' ⟨rfl, rfl⟩)
  simp [bodyPostS, results, Try.results70]
theorem catch_idle_span (p : Addr) (w : World) :
    CallsD Try.prog 70 #[.pointer (some p)] .returning w fun e u' w' => e = .returned (.tuple #[]) ∧ u' = .returning ∧ w = w' := by
  refine callsD_of_wpS Try.func70 rfl fun c₀ cs hu => ?_
  apply wpS_seq
  apply wpS_region
  simp [wpOpsS, go_sem, recoverD, hu, Try.ntmps70, Exit.thenS]
  refine wpS_of_wp ?_
  go_wp2_with fail
  cases c₀
  simp_all [bodyPostS, results, Try.results70]
set_option maxHeartbeats 400000 in
theorem answer_ok_span (K : Nat) (caps : Array Value) (w : World) (x y : Int) (hcf : ∀ w, (callFunc K caps).run Try.prog w = .ok (.enter K caps) w)
    (h : Calls Try.prog K caps ((w.alloc (.cells #[.int .i64 0, .int .i64 0] 23)).alloc (.cells #[.int .i64 0] 27)) (Ret (.agg #[.int .i64 x, .int .i64 y]) ((w.alloc (.cells #[.int .i64 0, .int .i64 0] 23)).alloc (.cells #[.int .i64 0] 27)))) :
    Calls Try.prog 30 #[.func (.func K) #[] caps] w (Ret (.tuple #[.agg #[.int .i64 x, .int .i64 y], .int .i64 0]) w) := by
  have hmf : ∀ (fn : Fn) (first cap : Array Value) (w : World), (Instr.makeFunc fn first cap).run Try.prog w = .ok (.func fn first cap) w := fun _ _ _ _ => rfl
  go_enter_defers Try.func30, Try.ntmps30
  go_wp2_with fail
  refine h.mono ?_
  rintro e w1 ⟨rfl, hk⟩
  have hc1 := hk.cells
  have hz1 : w.heap.size < w1.heap.size := by have := hk.size; simp at this; omega
  have hz2 : w.heap.size + 1 < w1.heap.size := by have := hk.size; simp at this; omega
  go_wp2_with fail
  refine leaves_cons (f := 70) (args := #[.pointer (some ⟨w.heap.size + 1, 0, none⟩)]) (by simp) (by simp [go_sem]) ?_
  refine (catch_idle_span ⟨w.heap.size + 1, 0, none⟩ _).mono ?_
  rintro e u' w'' ⟨rfl, rfl, rfl⟩
  refine ⟨.tuple #[.agg #[.int .i64 x, .int .i64 y], .int .i64 0], ?_, rfl, ((((((Keeps.refl _).alloc _).alloc _).trans hk).setCell _ (Nat.le_refl _)).setCell _ (Nat.le_refl _)).setCell _ (Nat.le_succ _)⟩
  have s0 : (w1.cell? ⟨w.heap.size, 0, none⟩).isSome = true := by rw [hc1.1 _ _ (by simp; omega)]; simp [go_sem]
  have s1 : (w1.cell? ⟨w.heap.size, 1, none⟩).isSome = true := by rw [hc1.1 _ _ (by simp; omega)]; simp [go_sem]
  have s2 : (w1.cell? ⟨w.heap.size + 1, 0, none⟩).isSome = true := by rw [hc1.1 _ _ (by simp)]; simp [go_sem]
  have q0 : (((w1.setCell ⟨w.heap.size, 0, none⟩ (.int .i64 x)).setCell ⟨w.heap.size, 1, none⟩ (.int .i64 y)).setCell ⟨w.heap.size + 1, 0, none⟩ (.int .i64 0)).cell? ⟨w.heap.size, 0, none⟩ = some (.int .i64 x) := by
    exact (cell_set_other (by omega)).trans ((cell_set_other (by omega)).trans (cell_set_same s0))
  have q1 : (((w1.setCell ⟨w.heap.size, 0, none⟩ (.int .i64 x)).setCell ⟨w.heap.size, 1, none⟩ (.int .i64 y)).setCell ⟨w.heap.size + 1, 0, none⟩ (.int .i64 0)).cell? ⟨w.heap.size, 1, none⟩ = some (.int .i64 y) := by
    exact (cell_set_other (by omega)).trans (cell_set_same (by rw [cell_set_other (by omega)]; exact s1))
  have q2 : (((w1.setCell ⟨w.heap.size, 0, none⟩ (.int .i64 x)).setCell ⟨w.heap.size, 1, none⟩ (.int .i64 y)).setCell ⟨w.heap.size + 1, 0, none⟩ (.int .i64 0)).cell? ⟨w.heap.size + 1, 0, none⟩ = some (.int .i64 0) := by
    exact cell_set_same (by rw [cell_set_other (by omega), cell_set_other (by omega)]; exact s2)
  simp [results, Try.results30, go_sem, q0, q1, q2]
set_option maxHeartbeats 400000 in
theorem answer_pan_span (K : Nat) (caps : Array Value) (w : World) (k : Int) (hcf : ∀ w, (callFunc K caps).run Try.prog w = .ok (.enter K caps) w)
    (h : Calls Try.prog K caps ((w.alloc (.cells #[.int .i64 0, .int .i64 0] 23)).alloc (.cells #[.int .i64 0] 27)) (Pan k ((w.alloc (.cells #[.int .i64 0, .int .i64 0] 23)).alloc (.cells #[.int .i64 0] 27)))) :
    Calls Try.prog 30 #[.func (.func K) #[] caps] w (Ret (.tuple #[.agg #[.int .i64 0, .int .i64 0], .int .i64 k]) w) := by
  have hmf : ∀ (fn : Fn) (first cap : Array Value) (w : World), (Instr.makeFunc fn first cap).run Try.prog w = .ok (.func fn first cap) w := fun _ _ _ _ => rfl
  go_enter_defers Try.func30, Try.ntmps30
  go_wp2_with fail
  refine h.mono ?_
  rintro e w1 ⟨rfl, hk⟩
  have hc1 := hk.cells
  have hz1 : w.heap.size < w1.heap.size := by have := hk.size; simp at this; omega
  refine leaves_cons (f := 70) (args := #[.pointer (some ⟨w.heap.size + 1, 0, none⟩)]) (by simp) (by simp [go_sem]) ?_
  refine (catch_pan_span ⟨w.heap.size + 1, 0, none⟩ k [] _ ?_ ?_).mono ?_
  · rw [hc1.1 _ _ (by simp)]; simp [go_sem]
  · rw [hc1.2 _ _ (by simp)]; simp [go_sem]
  rintro e u' w'' ⟨rfl, rfl, rfl⟩
  refine ⟨.tuple #[.agg #[.int .i64 0, .int .i64 0], .int .i64 k], ?_, rfl, ((((Keeps.refl _).alloc _).alloc _).trans hk).setCell _ (Nat.le_succ _)⟩
  have hc2 : (w1.setCell ⟨w.heap.size + 1, 0, none⟩ (.int .i64 k)).cell? ⟨w.heap.size + 1, 0, none⟩ = some (.int .i64 k) := World.cell?_setCell_same' _ _ _ (by rw [hc1.1 _ _ (by simp)]; simp [go_sem])
  have q0 : (w1.setCell ⟨w.heap.size + 1, 0, none⟩ (.int .i64 k)).cell? ⟨w.heap.size, 0, none⟩ = some (.int .i64 0) := by
    rw [cell_set_other (by omega), hc1.1 _ _ (by simp; omega)]; simp [go_sem]
  have q1 : (w1.setCell ⟨w.heap.size + 1, 0, none⟩ (.int .i64 k)).cell? ⟨w.heap.size, 1, none⟩ = some (.int .i64 0) := by
    rw [cell_set_other (by omega), hc1.1 _ _ (by simp; omega)]; simp [go_sem]
  simp [results, Try.results30, go_sem, hc2, q0, q1]

def W2 (r : Sum Int Sp) (w : World) (e : Ending) (w' : World) : Prop := match r with
  | .inl k => Pan k w e w'
  | .inr x => Ret (.agg #[.int .i64 x.1, .int .i64 x.2]) w e w'
def W1 (r : Sum Int Int) (w : World) (e : Ending) (w' : World) : Prop := match r with
  | .inl k => Pan k w e w'
  | .inr x => RetI x w e w'
def WL (r : Sum Int (List Sp)) (w : World) (e : Ending) (w' : World) : Prop := match r with
  | .inl k => Pan k w e w'
  | .inr L => SpR L w e w'
def spA (r : Sum Int Sp) : Sp := match r with
  | .inl _ => (0, 0)
  | .inr x => x
def inA (r : Sum Int Int) : Int := match r with
  | .inl _ => 0
  | .inr x => x
def liA (r : Sum Int (List Sp)) : List Sp := match r with
  | .inl _ => []
  | .inr x => x
theorem ans_span (K : Nat) (caps : Array Value) (w : World) (r : Sum Int Sp) (hcf : ∀ w, (callFunc K caps).run Try.prog w = .ok (.enter K caps) w) (h : ∀ w1, Keeps w w1 → Calls Try.prog K caps w1 (W2 r w1)) : Calls Try.prog 30 #[.func (.func K) #[] caps] w (Ret (.tuple #[.agg #[.int .i64 (spA r).1, .int .i64 (spA r).2], .int .i64 (erA r)]) w) := by
  have h1 := h _ (((Keeps.refl w).alloc (.cells #[.int .i64 0, .int .i64 0] 23)).alloc (.cells #[.int .i64 0] 27))
  cases r with
  | inl k => exact answer_pan_span K caps w k hcf h1
  | inr x => exact answer_ok_span K caps w x.1 x.2 hcf h1
theorem ans_int (K : Nat) (caps : Array Value) (w : World) (r : Sum Int Int) (hcf : ∀ w, (callFunc K caps).run Try.prog w = .ok (.enter K caps) w) (h : ∀ w1, Keeps w w1 → Calls Try.prog K caps w1 (W1 r w1)) : Calls Try.prog 40 #[.func (.func K) #[] caps] w (Ret (.tuple #[.int .i64 (inA r), .int .i64 (erA r)]) w) := by
  have h1 := h _ ((Keeps.refl w).alloc (.cells #[.int .i64 0] 27))
  cases r with
  | inl k => exact answer_pan_int K caps w k hcf h1
  | inr x => exact (answer_ok_int K caps w (fun v _ => v = .int .i64 x) hcf (fun _ _ _ h => h) (h1.mono fun e w' ⟨he, hk⟩ => ⟨_, he, rfl, hk⟩)).mono fun e w' ⟨v, he, hv, hk⟩ => ⟨by rw [he, hv]; rfl, hk⟩
/-- Spans and an error. -/
def SlR (r : Sum Int (List Sp)) (w : World) (e : Ending) (w' : World) : Prop :=
  ((liA r).isEmpty = true ∧ Ret (.tuple #[.slice none 0 0, .int .i64 (erA r)]) w e w') ∨ ((liA r).isEmpty = false ∧ NwL (α := Nat × Nat × List Value) (fun a => .tuple #[.slice (some ⟨a.1, 0, none⟩) (liA r).length a.2.1, .int .i64 (erA r)]) (fun a => [(a.1, .cells ((liA r).flatMap spR ++ a.2.2).toArray 23 (0, 0))]) (fun a => (liA r).length ≤ a.2.1) w e w')
theorem ans_sl (K : Nat) (caps : Array Value) (w : World) (r : Sum Int (List Sp)) (hcf : ∀ w, (callFunc K caps).run Try.prog w = .ok (.enter K caps) w) (h : ∀ w1, Keeps w w1 → Calls Try.prog K caps w1 (WL r w1)) : Calls Try.prog 46 #[.func (.func K) #[] caps] w (SlR r w) := by
  have hk0 : Keeps w (w.alloc (.cells #[.int .i64 0] 27)) := (Keeps.refl w).alloc _
  have h1 := h _ hk0
  cases r with
  | inl k => exact (answer_pan_sl K caps w k hcf h1).mono fun e w' h => .inl ⟨rfl, h⟩
  | inr L =>
    cases hL : L.isEmpty with
    | true =>
      refine (answer_ok_sl K caps w (fun v _ => v = .slice none 0 0) hcf (fun _ _ _ h => h) (h1.mono fun e w' hh => ?_)).mono fun e w' ⟨v, he, hv, hk⟩ => .inl ⟨hL, by rw [he, hv]; rfl, hk⟩
      rcases hh with ⟨_, he, hk⟩ | ⟨h2, _⟩
      · exact ⟨_, he, rfl, hk⟩
      · rw [hL] at h2; cases h2
    | false =>
      refine (answer_ok_sl K caps w (fun v wa => ∃ g cap sp, v = .slice (some ⟨g, 0, none⟩) L.length cap ∧ L.length ≤ cap ∧ wa.heap[g]? = some (.cells (L.flatMap spR ++ sp).toArray 23 (0, 0)) ∧ w.heap.size < g) hcf (fun v wa u ⟨g, cap, sp, h1, h2, h3, h4⟩ => ⟨g, cap, sp, h1, h2, ?_, h4⟩) (h1.mono fun e w' hh => ?_)).mono fun e w' ⟨v, he, ⟨g, cap, sp, hv, hc, hg, hge⟩, hk⟩ => .inr ⟨hL, (g, cap, sp), hc, by rw [he, hv]; rfl, hk, fun q hq => ?_, List.pairwise_singleton _ _⟩
      · rw [← h3]
        exact Below.heap_setCell _ _ _ _ (fun e => by have e : g = w.heap.size := e; omega)
      · rcases hh with ⟨h2, _⟩ | ⟨_, ⟨g, cap, sp⟩, hc, he, hk, hn, _⟩
        · rw [hL] at h2; cases h2
        · have hg := hn (g, _) (List.mem_singleton.2 rfl)
          have hs : (w.alloc (.cells #[.int .i64 0] 27)).heap.size = w.heap.size + 1 := by simp
          exact ⟨_, he, ⟨g, cap, sp, rfl, hc, hg.1, by have := hg.2; dsimp only at this; omega⟩, hk⟩
      · rw [List.mem_singleton] at hq
        subst hq
        exact ⟨hg, Nat.le_of_lt hge⟩
def lonS (e g : Sp) : Sp := (min (dwn (g.1 * e.1)) (dwn (g.2 * e.1)), max (dwn (g.1 * e.2)) (dwn (g.2 * e.2)))
set_option maxRecDepth 100000 in
theorem endsBy_any (x a b : Int) (h1a : -1000000000 ≤ a * x) (h1b : a * x ≤ 1000000000) (h2a : -1000000000 ≤ b * x) (h2b : b * x ≤ 1000000000) (w : World)  : Calls Try.prog 83 #[.agg #[.int .i64 a, .int .i64 b], .func (.func 84) #[.int .i64 x] #[]] w (Ret (.agg #[.int .i64 (min (dwn (a * x)) (dwn (b * x))), .int .i64 (max (dwn (a * x)) (dwn (b * x)))]) w) := by
  refine calls_run (fn := f83) (c := (f83.body).getD .skip) [.agg #[.int .i64 a, .int .i64 b], .func (.func 84) #[.int .i64 x] #[]] func83 (by kernel_rfl) (fun _ => False) [] (fun _ h => by cases h) (List.Pairwise.nil) 22 (by kernel_rfl) (by simp) ?_
  refine run_auto [] 2 [] [] [0, 1] [] (st' := ⟨[(0, .agg #[iV a, iV b]), (1, .func (.func 84) #[iV x] #[])], []⟩) (acc := []) (by kernel_rfl) (by kernel_rfl) trivial ?_
  refine run_new (aO #[iV a, iV b] 23) (fun b1 => pA b1) (some 2) (fun _ => by kernel_rfl) (fun b1 hb1 => ?_)
  refine run_new (aO #[iV 0, iV 0] 23) (fun b2 => pA b2) (some 4) (fun _ => by kernel_rfl) (fun b2 hb2 => ?_)
  refine run_auto [] 2 [] [] [1, 2, 4] [0, 1] (st' := ⟨[(1, .func (.func 84) #[iV x] #[]), (2, pA b1), (4, pA b2)], [(b2, aO #[iV 0, iV 0] 23), (b1, aO #[iV a, iV b] 23)]⟩) (acc := []) (by kernel_rfl) (by kernel_rfl) trivial ?_
  refine drawW 10 [{ val := fun _ => .func (.func 84) #[iV x] #[], slots := [1] },
      { val := fun _ => pA b1, slots := [2] },
      { val := fun _ => iV a, slots := [8], reads := [1] },
      { val := fun _ => iV (dwn (a * x)), slots := [7, 9] },
      { val := fun _ => .func (.func 84) #[iV x] #[], slots := [1] },
      { val := fun _ => .pointer (some ⟨b1, 1, none⟩), slots := [2] },
      { val := fun _ => iV b, slots := [12], reads := [1] },
      { val := fun _ => iV (dwn (b * x)), slots := [11, 13] },
      { val := fun _ => iV (dwn (a * x)), slots := [10] },
      { val := fun _ => iV (dwn (b * x)), slots := [14] }] [[], [], [1], [0, 1, 2], [], [], [5], [0, 1, 2, 3, 4, 5, 6], [0, 1, 2, 3, 4, 5, 6, 7], [0, 1, 2, 3, 4, 5, 6, 7, 8]] (by kernel_rfl) (by kernel_rfl) (by kernel_rfl) (by kernel_rfl) [4, 5, 6] [0] (by kernel_rfl)
      ⟨⟨⟨⟨⟨⟨⟨⟨⟨⟨trivial,
      tri_quietW (fun β => []) [] [] (fun β => []) (by kernel_rfl) (fun β extra => by kernel_rfl) (by kernel_rfl) (fun β => trivial)⟩,
      tri_quietW (fun β => []) [] [] (fun β => []) (by kernel_rfl) (fun β extra => by kernel_rfl) (by kernel_rfl) (fun β => trivial)⟩,
      tri_quietW (fun β => []) [0] [0] (fun β => [(pA b1, pA b1)]) (by kernel_rfl) (fun β extra => by kernel_rfl) (by kernel_rfl) (fun β => ⟨rfl, trivial⟩)⟩,
      tri_callVW (fun β => iV (dwn (a * x))) (fun β => by kernel_rfl) 84 (fun β => #[iV x, iV a]) (by kernel_rfl) (fun β extra => by kernel_rfl) (fun β => by kernel_rfl) (fun β w1 k1 h1 => xlonger_any x a h1a h1b w1)⟩,
      tri_quietW (fun β => []) [] [] (fun β => []) (by kernel_rfl) (fun β extra => by kernel_rfl) (by kernel_rfl) (fun β => trivial)⟩,
      tri_quietW (fun β => []) [] [] (fun β => []) (by kernel_rfl) (fun β extra => by kernel_rfl) (by kernel_rfl) (fun β => trivial)⟩,
      tri_quietW (fun β => []) [0] [0] (fun β => [(pA b1, pA b1)]) (by kernel_rfl) (fun β extra => by kernel_rfl) (by kernel_rfl) (fun β => ⟨rfl, trivial⟩)⟩,
      tri_callVW (fun β => iV (dwn (b * x))) (fun β => by kernel_rfl) 84 (fun β => #[iV x, iV b]) (by kernel_rfl) (fun β extra => by kernel_rfl) (fun β => by kernel_rfl) (fun β w1 k1 h1 => xlonger_any x b h2a h2b w1)⟩,
      tri_quietW (fun β => []) [] [] (fun β => []) (by kernel_rfl) (fun β extra => by kernel_rfl) (by kernel_rfl) (fun β => trivial)⟩,
      tri_quietW (fun β => []) [] [] (fun β => []) (by kernel_rfl) (fun β extra => by kernel_rfl) (by kernel_rfl) (fun β => trivial)⟩
      (fun β => ⟨[(4, pA b2), (5, iV (dwn (a * x))), (6, iV (dwn (b * x)))], [(b2, aO #[iV 0, iV 0] 23)]⟩) (fun β => by kernel_rfl) (fun β3 => ?_)
  refine run_auto [(17, iV (min (dwn (a * x)) (dwn (b * x)))), (20, iV (max (dwn (a * x)) (dwn (b * x))))] 11 [] [0] [4] [0] (st' := ⟨[(4, pA b2)], [(b2, aO #[iV (min (dwn (a * x)) (dwn (b * x))), iV (max (dwn (a * x)) (dwn (b * x)))] 23)]⟩) (acc := [(pA b2, pA b2), (iV (if (dwn (b * x)) > (dwn (a * x)) then (dwn (b * x)) else (dwn (a * x))), iV (max (dwn (a * x)) (dwn (b * x)))), (iV (if (dwn (b * x)) < (dwn (a * x)) then (dwn (b * x)) else (dwn (a * x))), iV (min (dwn (a * x)) (dwn (b * x))))]) (by kernel_rfl) (by kernel_rfl) ⟨rfl, (mx _ _ _), (mn _ _ _), trivial⟩ ?_
  refine run_end (fn := f83) rfl (Nat.le_refl _) (by kernel_rfl) [0] [.agg #[iV (min (dwn (a * x)) (dwn (b * x))), iV (max (dwn (a * x)) (dwn (b * x)))]] (e := [(pA b2, pA b2)]) (by kernel_rfl) ⟨rfl, trivial⟩ (fun w1 k1 h1 => ?_)
  exact ⟨rfl, k1.keeps (fun _ h => h)⟩

set_option maxRecDepth 100000 in
theorem elonger_any (x y a b : Int) (hx : (-1000000000 ≤ a * x ∧ a * x ≤ 1000000000) ∧ -1000000000 ≤ b * x ∧ b * x ≤ 1000000000) (hy : (-1000000000 ≤ a * y ∧ a * y ≤ 1000000000) ∧ -1000000000 ≤ b * y ∧ b * y ≤ 1000000000) (w : World)  : Calls Try.prog 39 #[.agg #[.int .i64 x, .int .i64 y], .agg #[.int .i64 a, .int .i64 b]] w (Ret (.agg #[.int .i64 (lonS (x, y) (a, b)).1, .int .i64 (lonS (x, y) (a, b)).2]) w) := by
  refine calls_run (fn := f39) (c := (f39.body).getD .skip) [.agg #[.int .i64 x, .int .i64 y], .agg #[.int .i64 a, .int .i64 b]] func39 (by kernel_rfl) (fun _ => False) [] (fun _ h => by cases h) (List.Pairwise.nil) 22 (by kernel_rfl) (by simp) ?_
  refine run_auto [] 2 [] [] [0, 1] [] (st' := ⟨[(0, .agg #[iV x, iV y]), (1, .agg #[iV a, iV b])], []⟩) (acc := []) (by kernel_rfl) (by kernel_rfl) trivial ?_
  refine run_new (aO #[iV x, iV y] 70) (fun b1 => pA b1) (some 2) (fun _ => by kernel_rfl) (fun b1 hb1 => ?_)
  refine run_new (aO #[iV a, iV b] 23) (fun b2 => pA b2) (some 3) (fun _ => by kernel_rfl) (fun b2 hb2 => ?_)
  refine run_new (aO #[iV 0, iV 0] 23) (fun b3 => pA b3) (some 4) (fun _ => by kernel_rfl) (fun b3 hb3 => ?_)
  refine run_auto [] 2 [] [] [2, 3, 4] [0, 1, 2] (st' := ⟨[(2, pA b1), (3, pA b2), (4, pA b3)], [(b3, aO #[iV 0, iV 0] 23), (b2, aO #[iV a, iV b] 23), (b1, aO #[iV x, iV y] 70)]⟩) (acc := []) (by kernel_rfl) (by kernel_rfl) trivial ?_
  refine drawW 14 [{ val := fun _ => .agg #[iV a, iV b], slots := [3], reads := [1] },
      { val := fun _ => pA b1, slots := [2] },
      { val := fun _ => iV x, slots := [8], reads := [2] },
      { val := fun _ => .func (.func 84) #[iV x] #[], slots := [9] },
      { val := fun _ => .agg #[iV (min (dwn (a * x)) (dwn (b * x))), iV (max (dwn (a * x)) (dwn (b * x)))], slots := [7, 10] },
      { val := fun _ => .agg #[iV a, iV b], slots := [3], reads := [1] },
      { val := fun _ => .pointer (some ⟨b1, 1, none⟩), slots := [2] },
      { val := fun _ => iV y, slots := [13], reads := [2] },
      { val := fun _ => .func (.func 84) #[iV y] #[], slots := [14] },
      { val := fun _ => .agg #[iV (min (dwn (a * y)) (dwn (b * y))), iV (max (dwn (a * y)) (dwn (b * y)))], slots := [12, 15] },
      { names := [13], val := fun l => .pointer (some ⟨(l.getD 0 0), 0, none⟩), upd := [(13, fun l => aO #[iV 0, iV 0] 23)], news := [13] },
      { names := [14], val := fun l => .pointer (some ⟨(l.getD 0 0), 0, none⟩), upd := [(14, fun l => aO #[iV 0, iV 0] 23)], news := [14] },
      { upd := [(13, fun l => aO #[iV (min (dwn (a * x)) (dwn (b * x))), iV (max (dwn (a * x)) (dwn (b * x)))] 23)], slots := [5, 11], reads := [13] },
      { upd := [(14, fun l => aO #[iV (min (dwn (a * y)) (dwn (b * y))), iV (max (dwn (a * y)) (dwn (b * y)))] 23)], slots := [6, 16], reads := [14] }] [[], [], [1], [1, 2], [0, 1, 2, 3], [], [], [6], [6, 7], [0, 1, 2, 3, 4, 5, 6, 7, 8], [], [], [0, 1, 2, 3, 4, 5, 6, 7, 8, 9, 10, 11], [0, 1, 2, 3, 4, 5, 6, 7, 8, 9, 10, 11, 12]] (by kernel_rfl) (by kernel_rfl) (by kernel_rfl) (by kernel_rfl) [4, 5, 6] [0, 13, 14] (by kernel_rfl)
      ⟨⟨⟨⟨⟨⟨⟨⟨⟨⟨⟨⟨⟨⟨trivial,
      tri_quietW (fun β => []) [0] [0] (fun β => [(pA b2, pA b2)]) (by kernel_rfl) (fun β extra => by kernel_rfl) (by kernel_rfl) (fun β => ⟨rfl, trivial⟩)⟩,
      tri_quietW (fun β => []) [] [] (fun β => []) (by kernel_rfl) (fun β extra => by kernel_rfl) (by kernel_rfl) (fun β => trivial)⟩,
      tri_quietW (fun β => []) [0] [0] (fun β => [(pA b1, pA b1)]) (by kernel_rfl) (fun β extra => by kernel_rfl) (by kernel_rfl) (fun β => ⟨rfl, trivial⟩)⟩,
      tri_quietW (fun β => []) [] [] (fun β => []) (by kernel_rfl) (fun β extra => by kernel_rfl) (by kernel_rfl) (fun β => trivial)⟩,
      tri_callVW (fun β => .agg #[iV (min (dwn (a * x)) (dwn (b * x))), iV (max (dwn (a * x)) (dwn (b * x)))]) (fun β => by kernel_rfl) 83 (fun β => #[.agg #[iV a, iV b], .func (.func 84) #[iV x] #[]]) (by kernel_rfl) (fun β extra => by kernel_rfl) (fun β => by kernel_rfl) (fun β w1 k1 h1 => endsBy_any x a b hx.1.1 hx.1.2 hx.2.1 hx.2.2 w1)⟩,
      tri_quietW (fun β => []) [0] [0] (fun β => [(pA b2, pA b2)]) (by kernel_rfl) (fun β extra => by kernel_rfl) (by kernel_rfl) (fun β => ⟨rfl, trivial⟩)⟩,
      tri_quietW (fun β => []) [] [] (fun β => []) (by kernel_rfl) (fun β extra => by kernel_rfl) (by kernel_rfl) (fun β => trivial)⟩,
      tri_quietW (fun β => []) [0] [0] (fun β => [(pA b1, pA b1)]) (by kernel_rfl) (fun β extra => by kernel_rfl) (by kernel_rfl) (fun β => ⟨rfl, trivial⟩)⟩,
      tri_quietW (fun β => []) [] [] (fun β => []) (by kernel_rfl) (fun β extra => by kernel_rfl) (by kernel_rfl) (fun β => trivial)⟩,
      tri_callVW (fun β => .agg #[iV (min (dwn (a * y)) (dwn (b * y))), iV (max (dwn (a * y)) (dwn (b * y)))]) (fun β => by kernel_rfl) 83 (fun β => #[.agg #[iV a, iV b], .func (.func 84) #[iV y] #[]]) (by kernel_rfl) (fun β extra => by kernel_rfl) (fun β => by kernel_rfl) (fun β w1 k1 h1 => endsBy_any y a b hy.1.1 hy.1.2 hy.2.1 hy.2.2 w1)⟩,
      tri_newW 13 (fun β => aO #[iV 0, iV 0] 23) (fun β b => pA b) [0] (by kernel_rfl) (fun β extra b => by kernel_rfl) (by kernel_rfl) (fun β b => by kernel_rfl) (fun β b => by kernel_rfl) (fun β b => by kernel_rfl)⟩,
      tri_newW 14 (fun β => aO #[iV 0, iV 0] 23) (fun β b => pA b) [0] (by kernel_rfl) (fun β extra b => by kernel_rfl) (by kernel_rfl) (fun β b => by kernel_rfl) (fun β b => by kernel_rfl) (fun β b => by kernel_rfl)⟩,
      tri_quietW (fun β => []) [0] [0] (fun β => [(.pointer (some ⟨(β 13), 0, none⟩), .pointer (some ⟨(β 13), 0, none⟩))]) (by kernel_rfl) (fun β extra => by kernel_rfl) (by kernel_rfl) (fun β => ⟨rfl, trivial⟩)⟩,
      tri_quietW (fun β => []) [0] [0] (fun β => [(.pointer (some ⟨(β 14), 0, none⟩), .pointer (some ⟨(β 14), 0, none⟩))]) (by kernel_rfl) (fun β extra => by kernel_rfl) (by kernel_rfl) (fun β => ⟨rfl, trivial⟩)⟩
      (fun β => ⟨[(4, pA b3), (5, .pointer (some ⟨(β 13), 0, none⟩)), (6, .pointer (some ⟨(β 14), 0, none⟩))], [(b3, aO #[iV 0, iV 0] 23), ((β 13), aO #[iV (min (dwn (a * x)) (dwn (b * x))), iV (max (dwn (a * x)) (dwn (b * x)))] 23), ((β 14), aO #[iV (min (dwn (a * y)) (dwn (b * y))), iV (max (dwn (a * y)) (dwn (b * y)))] 23)]⟩) (fun β => by kernel_rfl) (fun β4 => ?_)
  refine run_auto [] 9 [] [1, 2, 0] [4] [0] (st' := ⟨[(4, pA b3)], [(b3, aO #[iV (min (dwn (a * x)) (dwn (b * x))), iV (max (dwn (a * y)) (dwn (b * y)))] 23)]⟩) (acc := [(pA b3, pA b3), (.pointer (some ⟨(β4 14), 0, none⟩), .pointer (some ⟨(β4 14), 0, none⟩)), (.pointer (some ⟨(β4 13), 0, none⟩), .pointer (some ⟨(β4 13), 0, none⟩))]) (by kernel_rfl) (by kernel_rfl) ⟨rfl, rfl, rfl, trivial⟩ ?_
  refine run_end (fn := f39) rfl (Nat.le_refl _) (by kernel_rfl) [0] [.agg #[iV (min (dwn (a * x)) (dwn (b * x))), iV (max (dwn (a * y)) (dwn (b * y)))]] (e := [(pA b3, pA b3)]) (by kernel_rfl) ⟨rfl, trivial⟩ (fun w1 k1 h1 => ?_)
  exact ⟨rfl, k1.keeps (fun _ h => h)⟩


theorem out_bd {s : Sn} (h : s.Fine) {b m : Nat} (hb : b < s.bs.length) (hm : m ≤ 200) : (-200000 ≤ (s.out b m).1 ∧ (s.out b m).1 ≤ 200000) ∧ -200000 ≤ (s.out b m).2 ∧ (s.out b m).2 ≤ 200000 := by
  have h1 := (slW_bd (h.bkF hb)).1
  exact ⟨lows_bd h hb hm _ (Nat.le_refl _) h1, highs_bd h hb hm _ (Nat.le_refl _) h1⟩
theorem prod_bd {g x : Int} (hg : 0 ≤ g ∧ g ≤ 20) (hx : -200000 ≤ x ∧ x ≤ 200000) : -1000000000 ≤ g * x ∧ g * x ≤ 1000000000 := by
  have h1 : g * x ≤ g * 200000 := Int.mul_le_mul_of_nonneg_left hx.2 hg.1
  have h2 : g * -200000 ≤ g * x := Int.mul_le_mul_of_nonneg_left hx.1 hg.1
  omega
theorem lon_bd {s : Sn} (h : s.Fine) {b m : Nat} (hb : b < s.bs.length) (_hm : m ≤ 200) {x : Int} (hx : -200000 ≤ x ∧ x ≤ 200000) : (-1000000000 ≤ (elB s.bs b).2.2.2.2.1 * x ∧ (elB s.bs b).2.2.2.2.1 * x ≤ 1000000000) ∧ -1000000000 ≤ (elB s.bs b).2.2.2.2.2 * x ∧ (elB s.bs b).2.2.2.2.2 * x ≤ 1000000000 := by
  have hg := (h.bkF hb).g
  exact ⟨prod_bd (by omega) hx, prod_bd (by omega) hx⟩
end Go.Proofs.Ytfjfkaaflghaiaa

namespace Go.Proofs.Ytfjfkaaflghaiaa
open Go.RowKit Go.Proofs.Try
attribute [local irreducible] Run wpK


def Sn.isB (s : Sn) (b : Int) : Bool := inI b 0 ((s.bs.length : Int) - 1)
def Sn.isM (s : Sn) (m : Int) : Bool := inI m 0 s.last
def Sn.N (s : Sn) : Nat := s.last.toNat
def fmR (x : Int × Bool) : Sum Int Int := bif x.2 then .inr x.1 else .inl 4
def excR (s : Sn) (b m : Int) : Sum Int Sp := bif s.ok then bif s.isB b then bif s.isM m then .inr (s.out b.toNat m.toNat) else .inl 2 else .inl 2 else .inl 1
def lonR (s : Sn) (b m : Int) : Sum Int Sp := bif s.ok then bif s.isB b then bif s.isM m then .inr (lonS (s.out b.toNat m.toNat) (elB s.bs b.toNat).2.2.2.2) else .inl 2 else .inl 2 else .inl 1
def setR (s : Sn) (b m : Int) : Sum Int Int := bif s.ok then bif s.isB b then bif s.isM m then .inr (s.judge b.toNat m.toNat) else .inl 2 else .inl 2 else .inl 1
def whenR (s : Sn) (b : Int) : Sum Int Int := bif s.ok then bif s.isB b then fmR (s.frm [b.toNat] s.N) else .inl 2 else .inl 1
def allR (s : Sn) : Sum Int Int := bif s.ok then fmR (s.frm (List.range s.bs.length) s.N) else .inl 1
def restR (s : Sn) (b : Int) : Sum Int (List Sp) := bif s.ok then bif s.isB b then .inr (s.rs b.toNat (s.N + 1)) else .inl 2 else .inl 1
def waitV (s : Sn) (b : Nat) (x : Int) : Int × Bool := (fnV upN (frN (fun i => (s.un b x).set 0 i) (100 + 1)), (frN (fun i => (s.un b x).set 0 i) (100 + 1)).isSome)
def waitR (s : Sn) (b x : Int) : Sum Int Int := bif s.ok then bif s.isB b then bif inI x (-100) 100 then fmR (waitV s b.toNat x) else .inl 2 else .inl 2 else .inl 1
def latF (s : Sn) (b : Nat) (h : Int) (by_ : Nat) (i : Nat) : Bool := (s.tch ((b : Int), ((by_ - i : Nat) : Int), h, h)).set b by_
def latV (s : Sn) (b : Nat) (h : Int) (by_ : Nat) : Int × Bool := (fnV (dnN by_) (frN (latF s b h by_) (by_ + 1)), (frN (latF s b h by_) (by_ + 1)).isSome)
def latR (s : Sn) (b h m : Int) : Sum Int Int := bif s.ok then bif s.isB b then bif s.isM m then bif inI h (-100) 100 then fmR (latV s b.toNat h m.toNat) else .inl 2 else .inl 2 else .inl 2 else .inl 1
theorem Sn.Fine.lastN {s : Sn} (h : s.Fine) : s.last = (s.N : Int) := by have := h.l; unfold Sn.N; omega
theorem isB_of {s : Sn} {b : Int} (h : s.isB b = true) : ∃ n : Nat, b = (n : Int) ∧ n < s.bs.length := by
  have h1 : 0 ≤ b ∧ b ≤ (s.bs.length : Int) - 1 := of_decide_eq_true h
  exact ⟨b.toNat, by omega, by omega⟩
theorem isM_of {s : Sn} (hs : s.Fine) {m : Int} (h : s.isM m = true) : ∃ n : Nat, m = (n : Int) ∧ n ≤ 60 := by
  have h1 : 0 ≤ m ∧ m ≤ s.last := of_decide_eq_true h
  have := hs.l
  exact ⟨m.toNat, by omega, by omega⟩
theorem tch_fine {s : Sn} (h : s.Fine) {b m : Nat} (hb : b < s.bs.length) (hm : m ≤ 60) {x : Int} (hx : -100 ≤ x ∧ x ≤ 100) (h6 : s.ts.length ≤ 7) : (s.tch ((b : Int), (m : Int), x, x)).Fine := by
  refine ⟨h.n1, h.n4, h.bk, h.nr, h.l, by show (s.ts ++ [_]).length ≤ 8; rw [List.length_append, List.length_singleton]; omega, fun t ht => ?_⟩
  rcases List.mem_append.1 ht with ht | ht
  · exact h.tc t ht
  · rw [List.mem_singleton] at ht
    subst ht
    exact ⟨by show (0 : Int) ≤ (b : Int) ∧ (b : Int) < (s.bs.length : Int); omega, by show (0 : Int) ≤ (m : Int) ∧ (m : Int) ≤ 60; omega, by show -100 ≤ x ∧ x ≤ x ∧ x ≤ 100; omega⟩
set_option maxRecDepth 100000 in
set_option maxHeartbeats 2000000 in
theorem exc1_any (p : Sb) (b m : Int) (bp b_b b_m : Nat) (w : World) (hp : p.In w) (hbp : w.heap[bp]? = some (.cells #[.slice p.ba p.bs.length p.bc, .int .i64 p.near, .int .i64 p.last, .slice p.ta p.ts.length p.tc] 33 (0, 0))) (hb_b : w.heap[b_b]? = some (.cells #[.int .i64 b] 3 (0, 0))) (hb_m : w.heap[b_m]? = some (.cells #[.int .i64 m] 3 (0, 0)))  : Calls Try.prog 31 #[.pointer (some ⟨bp, 0, none⟩), .pointer (some ⟨b_b, 0, none⟩), .pointer (some ⟨b_m, 0, none⟩)] w (W2 (excR p.n b m) w) := by
  refine calls_run (fn := f31) (c := (f31.body).getD .skip) [.pointer (some ⟨bp, 0, none⟩), .pointer (some ⟨b_b, 0, none⟩), .pointer (some ⟨b_m, 0, none⟩)] func31 (by kernel_rfl) (fun _ => False) [] (fun _ h => by cases h) (List.Pairwise.nil) 18 (by kernel_rfl) (by simp) ?_
  refine run_auto [] 2 [] [] [0, 1, 2] [] (st' := ⟨[(0, pA bp), (1, pA b_b), (2, pA b_m)], []⟩) (acc := []) (by kernel_rfl) (by kernel_rfl) trivial ?_
  refine run_new (aO #[iV 0, iV 0] 23) (fun b1 => pA b1) (some 3) (fun _ => by kernel_rfl) (fun b1 hb1 => ?_)
  refine run_auto [] 3 [] [] [0, 1, 2, 3] [0] (st' := ⟨[(0, pA bp), (1, pA b_b), (2, pA b_m), (3, pA b1)], [(b1, aO #[iV 0, iV 0] 23)]⟩) (acc := []) (by kernel_rfl) (by kernel_rfl) trivial ?_
  refine run_v (Instr.loadAt 33 (pA bp) >>= fun v => pure (Next.value v)) (some 4) (.agg #[.slice p.ba p.bs.length p.bc, iV p.near, iV p.last, .slice p.ta p.ts.length p.tc]) (by kernel_rfl) (fun w1 k1 h1 => load_in (base := 0) (off := 0) k1 (fun h => h) [.slice p.ba p.bs.length p.bc, iV p.near, iV p.last, .slice p.ta p.ts.length p.tc] (fun i u hi => by rw [Nat.zero_add]; exact cells_of_heap hbp i u hi) (by kernel_rfl)) ?_
  cases hd1 : p.n.ok with
  | false =>
    exact run_panics rfl (Nat.le_refl _) 32 #[.agg #[.slice p.ba p.bs.length p.bc, iV p.near, iV p.last, .slice p.ta p.ts.length p.tc]] (some 5) (pe 1) (by kernel_rfl) (fun w1 k1 h1 => (by have h := needSettle_any p w1 (hp.keep (k1.keeps (fun _ h => h))); rw [hd1] at h; exact h)) (fun w1 k1 h1 => (by unfold excR; rw [hd1]; exact ⟨rfl, k1.keeps (fun _ h => h)⟩))
  | true =>
    have hF := Sn.fine hd1
    have hln := hF.lastN
    have hl60 := hF.l.2
    have hnN : p.last = (p.n.N : Int) := hln
    have h6 : p.ts.length ≤ 7 := Nat.le_succ_of_le (Sn.ok_t6 (s := p.n) hd1)
    refine run_ret1 32 #[.agg #[.slice p.ba p.bs.length p.bc, iV p.near, iV p.last, .slice p.ta p.ts.length p.tc]] (some 5) (.tuple #[]) (by kernel_rfl) (fun w1 k1 h1 => (by have h := needSettle_any p w1 (hp.keep (k1.keeps (fun _ h => h))); rw [hd1] at h; exact h)) ?_
    refine run_auto [] 3 [] [] [0, 1, 2, 3] [0] (st' := ⟨[(0, pA bp), (1, pA b_b), (2, pA b_m), (3, pA b1)], [(b1, aO #[iV 0, iV 0] 23)]⟩) (acc := []) (by kernel_rfl) (by kernel_rfl) trivial ?_
    refine run_v (Instr.loadAt 33 (pA bp) >>= fun v => pure (Next.value v)) (some 6) (.agg #[.slice p.ba p.bs.length p.bc, iV p.near, iV p.last, .slice p.ta p.ts.length p.tc]) (by kernel_rfl) (fun w1 k1 h1 => load_in (base := 0) (off := 0) k1 (fun h => h) [.slice p.ba p.bs.length p.bc, iV p.near, iV p.last, .slice p.ta p.ts.length p.tc] (fun i u hi => by rw [Nat.zero_add]; exact cells_of_heap hbp i u hi) (by kernel_rfl)) ?_
    refine run_v (Instr.loadAt 3 (pA b_b) >>= fun v => pure (Next.value v)) (some 7) (iV b) (by kernel_rfl) (fun w1 k1 h1 => load_in (base := 0) (off := 0) k1 (fun h => h) [iV b] (fun i u hi => by rw [Nat.zero_add]; exact cells_of_heap hb_b i u hi) (by kernel_rfl)) ?_
    cases hd2 : (inI b 0 ((p.bs.length : Int) - 1)) with
    | false =>
      exact run_panics rfl (Nat.le_refl _) 33 #[.agg #[.slice p.ba p.bs.length p.bc, iV p.near, iV p.last, .slice p.ta p.ts.length p.tc], iV b] (some 8) (pe 2) (by kernel_rfl) (fun w1 k1 h1 => (by have h := needBlock_any p b w1 hp.lb; rw [hd2] at h; exact h)) (fun w1 k1 h1 => (by unfold excR; rw [hd1, (show p.n.isB _ = false from hd2)]; exact ⟨rfl, k1.keeps (fun _ h => h)⟩))
    | true =>
      obtain ⟨b0, rfl, hb0⟩ := isB_of (s := p.n) hd2
      refine run_ret1 33 #[.agg #[.slice p.ba p.bs.length p.bc, iV p.near, iV p.last, .slice p.ta p.ts.length p.tc], iV (b0 : Int)] (some 8) (.tuple #[]) (by kernel_rfl) (fun w1 k1 h1 => (by have h := needBlock_any p (b0 : Int) w1 hp.lb; rw [hd2] at h; exact h)) ?_
      refine run_auto [] 3 [] [] [0, 1, 2, 3] [0] (st' := ⟨[(0, pA bp), (1, pA b_b), (2, pA b_m), (3, pA b1)], [(b1, aO #[iV 0, iV 0] 23)]⟩) (acc := []) (by kernel_rfl) (by kernel_rfl) trivial ?_
      refine run_v (Instr.loadAt 33 (pA bp) >>= fun v => pure (Next.value v)) (some 9) (.agg #[.slice p.ba p.bs.length p.bc, iV p.near, iV p.last, .slice p.ta p.ts.length p.tc]) (by kernel_rfl) (fun w1 k1 h1 => load_in (base := 0) (off := 0) k1 (fun h => h) [.slice p.ba p.bs.length p.bc, iV p.near, iV p.last, .slice p.ta p.ts.length p.tc] (fun i u hi => by rw [Nat.zero_add]; exact cells_of_heap hbp i u hi) (by kernel_rfl)) ?_
      refine run_v (Instr.loadAt 3 (pA b_m) >>= fun v => pure (Next.value v)) (some 10) (iV m) (by kernel_rfl) (fun w1 k1 h1 => load_in (base := 0) (off := 0) k1 (fun h => h) [iV m] (fun i u hi => by rw [Nat.zero_add]; exact cells_of_heap hb_m i u hi) (by kernel_rfl)) ?_
      cases hd3 : (inI m 0 p.last) with
      | false =>
        exact run_panics rfl (Nat.le_refl _) 34 #[.agg #[.slice p.ba p.bs.length p.bc, iV p.near, iV p.last, .slice p.ta p.ts.length p.tc], iV m] (some 11) (pe 2) (by kernel_rfl) (fun w1 k1 h1 => (by have h := needMinute_any p m w1; rw [hd3] at h; exact h)) (fun w1 k1 h1 => (by unfold excR; rw [hd1, (show p.n.isB _ = true from hd2), (show p.n.isM _ = false from hd3)]; exact ⟨rfl, k1.keeps (fun _ h => h)⟩))
      | true =>
        obtain ⟨m0, rfl, hm0⟩ := isM_of hF hd3
        refine run_ret1 34 #[.agg #[.slice p.ba p.bs.length p.bc, iV p.near, iV p.last, .slice p.ta p.ts.length p.tc], iV (m0 : Int)] (some 11) (.tuple #[]) (by kernel_rfl) (fun w1 k1 h1 => (by have h := needMinute_any p (m0 : Int) w1; rw [hd3] at h; exact h)) ?_
        refine run_auto [] 2 [] [] [0, 1, 2, 3] [0] (st' := ⟨[(0, pA bp), (1, pA b_b), (2, pA b_m), (3, pA b1)], [(b1, aO #[iV 0, iV 0] 23)]⟩) (acc := []) (by kernel_rfl) (by kernel_rfl) trivial ?_
        refine drawW 7 [{ val := fun _ => .agg #[.slice p.ba p.bs.length p.bc, iV p.near, iV p.last, .slice p.ta p.ts.length p.tc], slots := [0] },
                  { names := [2], val := fun l => .agg #[.slice p.ba p.bs.length p.bc, iV p.near, iV p.last, .slice p.ta p.ts.length p.tc, .map (some (l.getD 0 0))], upd := [(2, fun l => memO kvM (vvM p.n) [])], news := [2], slots := [12] },
                  { val := fun _ => iV (b0 : Int), slots := [1] },
                  { val := fun _ => iV (m0 : Int), slots := [2] },
                  { val := fun _ => .agg #[iV (p.n.out b0 m0).1, iV (p.n.out b0 m0).2], slots := [13, 14, 15], reads := [2], takes := [2] },
                  { val := fun _ => .agg #[iV (p.n.out b0 m0).1, iV (p.n.out b0 m0).2], slots := [16] },
                  { upd := [(0, fun l => aO #[iV (p.n.out b0 m0).1, iV (p.n.out b0 m0).2] 23)], slots := [3, 17], reads := [0] }] [[], [0], [], [], [0, 1, 2, 3], [0, 1, 2, 3, 4], [0, 1, 2, 3, 4, 5]] (by kernel_rfl) (by kernel_rfl) (by kernel_rfl) (by kernel_rfl) [3] [0] (by kernel_rfl)
                  ⟨⟨⟨⟨⟨⟨⟨trivial,
                  tri_vVW (fun β => .agg #[.slice p.ba p.bs.length p.bc, iV p.near, iV p.last, .slice p.ta p.ts.length p.tc]) (fun β => by kernel_rfl) (fun β => (Instr.loadAt 33 (pA bp) >>= fun v => pure (Next.value v))) (by kernel_rfl) (fun β extra => by kernel_rfl) (fun β => by kernel_rfl) (fun β w1 k1 h1 => load_in (base := 0) (off := 0) k1 (fun h => h) [.slice p.ba p.bs.length p.bc, iV p.near, iV p.last, .slice p.ta p.ts.length p.tc] (fun i u hi => by rw [Nat.zero_add]; exact cells_of_heap hbp i u hi) (by kernel_rfl))⟩,
                  tri_nwW 2 (fun β b => .agg #[.slice p.ba p.bs.length p.bc, iV p.near, iV p.last, .slice p.ta p.ts.length p.tc, .map (some b)]) (fun β => memO kvM (vvM p.n) []) 35 (fun β => #[.agg #[.slice p.ba p.bs.length p.bc, iV p.near, iV p.last, .slice p.ta p.ts.length p.tc]]) (by kernel_rfl) (fun β extra => by kernel_rfl) (fun β => by kernel_rfl) (fun β b => by kernel_rfl) (fun β b => by kernel_rfl) (fun β b => by kernel_rfl) (fun β w1 k1 h1 => plateOf_any p w1)⟩,
                  tri_vVW (fun β => iV (b0 : Int)) (fun β => by kernel_rfl) (fun β => (Instr.loadAt 3 (pA b_b) >>= fun v => pure (Next.value v))) (by kernel_rfl) (fun β extra => by kernel_rfl) (fun β => by kernel_rfl) (fun β w1 k1 h1 => load_in (base := 0) (off := 0) k1 (fun h => h) [iV (b0 : Int)] (fun i u hi => by rw [Nat.zero_add]; exact cells_of_heap hb_b i u hi) (by kernel_rfl))⟩,
                  tri_vVW (fun β => iV (m0 : Int)) (fun β => by kernel_rfl) (fun β => (Instr.loadAt 3 (pA b_m) >>= fun v => pure (Next.value v))) (by kernel_rfl) (fun β extra => by kernel_rfl) (fun β => by kernel_rfl) (fun β w1 k1 h1 => load_in (base := 0) (off := 0) k1 (fun h => h) [iV (m0 : Int)] (fun i u hi => by rw [Nat.zero_add]; exact cells_of_heap hb_m i u hi) (by kernel_rfl))⟩,
                  tri_dropW (fun β => (β 2)) (fun β => memO kvM (vvM p.n) []) (fun β => []) (fun β => .agg #[iV (p.n.out b0 m0).1, iV (p.n.out b0 m0).2]) 36 (fun β => #[.agg #[.slice p.ba p.bs.length p.bc, iV p.near, iV p.last, .slice p.ta p.ts.length p.tc, .map (some (β 2))], iV (b0 : Int), iV (m0 : Int)]) (by kernel_rfl) (fun β extra => by kernel_rfl) (fun β => by kernel_rfl) (fun β => by kernel_rfl) (fun β => by kernel_rfl) (fun β w1 k1 h1 => ((outermost_any p (β 2) b0 m0 [] w1 (h1 ((β 2), memO kvM (vvM p.n) []) (List.mem_of_getElem? (i := 0) (by kernel_rfl))) ((hp.keep (k1.keeps (fun _ h => h))).map (h1 ((β 2), memO kvM (vvM p.n) []) (List.mem_of_getElem? (i := 0) (by kernel_rfl)))) hF hb0 (by omega)).mono fun e w' ⟨L, _, he, hk, _⟩ => ⟨he, hk⟩))⟩,
                  tri_callVW (fun β => .agg #[iV (p.n.out b0 m0).1, iV (p.n.out b0 m0).2]) (fun β => by kernel_rfl) 37 (fun β => #[.agg #[iV (p.n.out b0 m0).1, iV (p.n.out b0 m0).2]]) (by kernel_rfl) (fun β extra => by kernel_rfl) (fun β => by kernel_rfl) (fun β w1 k1 h1 => espan_any (p.n.out b0 m0).1 (p.n.out b0 m0).2 w1)⟩,
                  tri_quietW (fun β => []) [0] [0] (fun β => [(pA b1, pA b1)]) (by kernel_rfl) (fun β extra => by kernel_rfl) (by kernel_rfl) (fun β => ⟨rfl, trivial⟩)⟩
                  (fun β => ⟨[(3, pA b1)], [(b1, aO #[iV (p.n.out b0 m0).1, iV (p.n.out b0 m0).2] 23)]⟩) (fun β => by kernel_rfl) (fun β2 => ?_)
        refine run_end (fn := f31) rfl (Nat.le_refl _) (by kernel_rfl) [0] [.agg #[iV (p.n.out b0 m0).1, iV (p.n.out b0 m0).2]] (e := [(pA b1, pA b1)]) (by kernel_rfl) ⟨rfl, trivial⟩ (fun w1 k1 h1 => ?_)
        unfold excR
        rw [hd1, (show p.n.isB _ = true from hd2), (show p.n.isM _ = true from hd3)]
        exact ⟨rfl, k1.keeps (fun _ h => h)⟩

set_option maxRecDepth 100000 in
set_option maxHeartbeats 2000000 in
theorem lon1_any (p : Sb) (b m : Int) (bp b_b b_m : Nat) (w : World) (hp : p.In w) (hbp : w.heap[bp]? = some (.cells #[.slice p.ba p.bs.length p.bc, .int .i64 p.near, .int .i64 p.last, .slice p.ta p.ts.length p.tc] 33 (0, 0))) (hb_b : w.heap[b_b]? = some (.cells #[.int .i64 b] 3 (0, 0))) (hb_m : w.heap[b_m]? = some (.cells #[.int .i64 m] 3 (0, 0)))  : Calls Try.prog 38 #[.pointer (some ⟨bp, 0, none⟩), .pointer (some ⟨b_b, 0, none⟩), .pointer (some ⟨b_m, 0, none⟩)] w (W2 (lonR p.n b m) w) := by
  refine calls_run (fn := f38) (c := (f38.body).getD .skip) [.pointer (some ⟨bp, 0, none⟩), .pointer (some ⟨b_b, 0, none⟩), .pointer (some ⟨b_m, 0, none⟩)] func38 (by kernel_rfl) (fun _ => False) [] (fun _ h => by cases h) (List.Pairwise.nil) 24 (by kernel_rfl) (by simp) ?_
  refine run_auto [] 2 [] [] [0, 1, 2] [] (st' := ⟨[(0, pA bp), (1, pA b_b), (2, pA b_m)], []⟩) (acc := []) (by kernel_rfl) (by kernel_rfl) trivial ?_
  refine run_new (aO #[iV 0, iV 0] 23) (fun b1 => pA b1) (some 3) (fun _ => by kernel_rfl) (fun b1 hb1 => ?_)
  refine run_auto [] 3 [] [] [0, 1, 2, 3] [0] (st' := ⟨[(0, pA bp), (1, pA b_b), (2, pA b_m), (3, pA b1)], [(b1, aO #[iV 0, iV 0] 23)]⟩) (acc := []) (by kernel_rfl) (by kernel_rfl) trivial ?_
  refine run_v (Instr.loadAt 33 (pA bp) >>= fun v => pure (Next.value v)) (some 4) (.agg #[.slice p.ba p.bs.length p.bc, iV p.near, iV p.last, .slice p.ta p.ts.length p.tc]) (by kernel_rfl) (fun w1 k1 h1 => load_in (base := 0) (off := 0) k1 (fun h => h) [.slice p.ba p.bs.length p.bc, iV p.near, iV p.last, .slice p.ta p.ts.length p.tc] (fun i u hi => by rw [Nat.zero_add]; exact cells_of_heap hbp i u hi) (by kernel_rfl)) ?_
  cases hd1 : p.n.ok with
  | false =>
    exact run_panics rfl (Nat.le_refl _) 32 #[.agg #[.slice p.ba p.bs.length p.bc, iV p.near, iV p.last, .slice p.ta p.ts.length p.tc]] (some 5) (pe 1) (by kernel_rfl) (fun w1 k1 h1 => (by have h := needSettle_any p w1 (hp.keep (k1.keeps (fun _ h => h))); rw [hd1] at h; exact h)) (fun w1 k1 h1 => (by unfold lonR; rw [hd1]; exact ⟨rfl, k1.keeps (fun _ h => h)⟩))
  | true =>
    have hF := Sn.fine hd1
    have hln := hF.lastN
    have hl60 := hF.l.2
    have hnN : p.last = (p.n.N : Int) := hln
    have h6 : p.ts.length ≤ 7 := Nat.le_succ_of_le (Sn.ok_t6 (s := p.n) hd1)
    refine run_ret1 32 #[.agg #[.slice p.ba p.bs.length p.bc, iV p.near, iV p.last, .slice p.ta p.ts.length p.tc]] (some 5) (.tuple #[]) (by kernel_rfl) (fun w1 k1 h1 => (by have h := needSettle_any p w1 (hp.keep (k1.keeps (fun _ h => h))); rw [hd1] at h; exact h)) ?_
    refine run_auto [] 3 [] [] [0, 1, 2, 3] [0] (st' := ⟨[(0, pA bp), (1, pA b_b), (2, pA b_m), (3, pA b1)], [(b1, aO #[iV 0, iV 0] 23)]⟩) (acc := []) (by kernel_rfl) (by kernel_rfl) trivial ?_
    refine run_v (Instr.loadAt 33 (pA bp) >>= fun v => pure (Next.value v)) (some 6) (.agg #[.slice p.ba p.bs.length p.bc, iV p.near, iV p.last, .slice p.ta p.ts.length p.tc]) (by kernel_rfl) (fun w1 k1 h1 => load_in (base := 0) (off := 0) k1 (fun h => h) [.slice p.ba p.bs.length p.bc, iV p.near, iV p.last, .slice p.ta p.ts.length p.tc] (fun i u hi => by rw [Nat.zero_add]; exact cells_of_heap hbp i u hi) (by kernel_rfl)) ?_
    refine run_v (Instr.loadAt 3 (pA b_b) >>= fun v => pure (Next.value v)) (some 7) (iV b) (by kernel_rfl) (fun w1 k1 h1 => load_in (base := 0) (off := 0) k1 (fun h => h) [iV b] (fun i u hi => by rw [Nat.zero_add]; exact cells_of_heap hb_b i u hi) (by kernel_rfl)) ?_
    cases hd2 : (inI b 0 ((p.bs.length : Int) - 1)) with
    | false =>
      exact run_panics rfl (Nat.le_refl _) 33 #[.agg #[.slice p.ba p.bs.length p.bc, iV p.near, iV p.last, .slice p.ta p.ts.length p.tc], iV b] (some 8) (pe 2) (by kernel_rfl) (fun w1 k1 h1 => (by have h := needBlock_any p b w1 hp.lb; rw [hd2] at h; exact h)) (fun w1 k1 h1 => (by unfold lonR; rw [hd1, (show p.n.isB _ = false from hd2)]; exact ⟨rfl, k1.keeps (fun _ h => h)⟩))
    | true =>
      obtain ⟨b0, rfl, hb0⟩ := isB_of (s := p.n) hd2
      have hne : p.bs ≠ [] := by intro h; have h1 : b0 < p.bs.length := hb0; rw [h] at h1; cases h1
      have hb0l : b0 < p.bs.length := hb0
      obtain ⟨bq, oq, hbq, hcq⟩ := hp.bk hne
      have hcq := hcq b0 hb0
      refine run_ret1 33 #[.agg #[.slice p.ba p.bs.length p.bc, iV p.near, iV p.last, .slice p.ta p.ts.length p.tc], iV (b0 : Int)] (some 8) (.tuple #[]) (by kernel_rfl) (fun w1 k1 h1 => (by have h := needBlock_any p (b0 : Int) w1 hp.lb; rw [hd2] at h; exact h)) ?_
      refine run_auto [] 3 [] [] [0, 1, 2, 3] [0] (st' := ⟨[(0, pA bp), (1, pA b_b), (2, pA b_m), (3, pA b1)], [(b1, aO #[iV 0, iV 0] 23)]⟩) (acc := []) (by kernel_rfl) (by kernel_rfl) trivial ?_
      refine run_v (Instr.loadAt 33 (pA bp) >>= fun v => pure (Next.value v)) (some 9) (.agg #[.slice p.ba p.bs.length p.bc, iV p.near, iV p.last, .slice p.ta p.ts.length p.tc]) (by kernel_rfl) (fun w1 k1 h1 => load_in (base := 0) (off := 0) k1 (fun h => h) [.slice p.ba p.bs.length p.bc, iV p.near, iV p.last, .slice p.ta p.ts.length p.tc] (fun i u hi => by rw [Nat.zero_add]; exact cells_of_heap hbp i u hi) (by kernel_rfl)) ?_
      refine run_v (Instr.loadAt 3 (pA b_m) >>= fun v => pure (Next.value v)) (some 10) (iV m) (by kernel_rfl) (fun w1 k1 h1 => load_in (base := 0) (off := 0) k1 (fun h => h) [iV m] (fun i u hi => by rw [Nat.zero_add]; exact cells_of_heap hb_m i u hi) (by kernel_rfl)) ?_
      cases hd3 : (inI m 0 p.last) with
      | false =>
        exact run_panics rfl (Nat.le_refl _) 34 #[.agg #[.slice p.ba p.bs.length p.bc, iV p.near, iV p.last, .slice p.ta p.ts.length p.tc], iV m] (some 11) (pe 2) (by kernel_rfl) (fun w1 k1 h1 => (by have h := needMinute_any p m w1; rw [hd3] at h; exact h)) (fun w1 k1 h1 => (by unfold lonR; rw [hd1, (show p.n.isB _ = true from hd2), (show p.n.isM _ = false from hd3)]; exact ⟨rfl, k1.keeps (fun _ h => h)⟩))
      | true =>
        obtain ⟨m0, rfl, hm0⟩ := isM_of hF hd3
        refine run_ret1 34 #[.agg #[.slice p.ba p.bs.length p.bc, iV p.near, iV p.last, .slice p.ta p.ts.length p.tc], iV (m0 : Int)] (some 11) (.tuple #[]) (by kernel_rfl) (fun w1 k1 h1 => (by have h := needMinute_any p (m0 : Int) w1; rw [hd3] at h; exact h)) ?_
        refine run_auto [] 2 [] [] [0, 1, 2, 3] [0] (st' := ⟨[(0, pA bp), (1, pA b_b), (2, pA b_m), (3, pA b1)], [(b1, aO #[iV 0, iV 0] 23)]⟩) (acc := []) (by kernel_rfl) (by kernel_rfl) trivial ?_
        refine drawW 13 [{ val := fun _ => .agg #[.slice p.ba p.bs.length p.bc, iV p.near, iV p.last, .slice p.ta p.ts.length p.tc], slots := [0] },
                  { names := [2], val := fun l => .agg #[.slice p.ba p.bs.length p.bc, iV p.near, iV p.last, .slice p.ta p.ts.length p.tc, .map (some (l.getD 0 0))], upd := [(2, fun l => memO kvM (vvM p.n) [])], news := [2], slots := [12] },
                  { val := fun _ => iV (b0 : Int), slots := [1] },
                  { val := fun _ => iV (m0 : Int), slots := [2] },
                  { val := fun _ => .agg #[iV (p.n.out b0 m0).1, iV (p.n.out b0 m0).2], slots := [13, 14, 15], reads := [2], takes := [2] },
                  { val := fun _ => pA bp, slots := [0] },
                  { val := fun _ => .slice p.ba p.bs.length p.bc, slots := [17] },
                  { val := fun _ => iV (b0 : Int), slots := [1] },
                  { val := fun _ => .pointer (some ⟨bq, oq + b0 * 6, none⟩), slots := [18, 19] },
                  { val := fun _ => .pointer (some ⟨bq, oq + b0 * 6 + 4, none⟩), slots := [20] },
                  { val := fun _ => .agg #[iV (elB p.bs b0).2.2.2.2.1, iV (elB p.bs b0).2.2.2.2.2], slots := [21] },
                  { val := fun _ => .agg #[iV ((lonS (p.n.out b0 m0) (elB p.bs b0).2.2.2.2).1), iV ((lonS (p.n.out b0 m0) (elB p.bs b0).2.2.2.2).2)], slots := [16, 22] },
                  { upd := [(0, fun l => aO #[iV ((lonS (p.n.out b0 m0) (elB p.bs b0).2.2.2.2).1), iV ((lonS (p.n.out b0 m0) (elB p.bs b0).2.2.2.2).2)] 23)], slots := [3, 23], reads := [0] }] [[], [0], [], [], [0, 1, 2, 3], [], [5], [], [5, 6, 7], [5, 6, 7, 8], [5, 6, 7, 8, 9], [0, 1, 2, 3, 4, 5, 6, 7, 8, 9, 10], [0, 1, 2, 3, 4, 5, 6, 7, 8, 9, 10, 11]] (by kernel_rfl) (by kernel_rfl) (by kernel_rfl) (by kernel_rfl) [3] [0] (by kernel_rfl)
                  ⟨⟨⟨⟨⟨⟨⟨⟨⟨⟨⟨⟨⟨trivial,
                  tri_vVW (fun β => .agg #[.slice p.ba p.bs.length p.bc, iV p.near, iV p.last, .slice p.ta p.ts.length p.tc]) (fun β => by kernel_rfl) (fun β => (Instr.loadAt 33 (pA bp) >>= fun v => pure (Next.value v))) (by kernel_rfl) (fun β extra => by kernel_rfl) (fun β => by kernel_rfl) (fun β w1 k1 h1 => load_in (base := 0) (off := 0) k1 (fun h => h) [.slice p.ba p.bs.length p.bc, iV p.near, iV p.last, .slice p.ta p.ts.length p.tc] (fun i u hi => by rw [Nat.zero_add]; exact cells_of_heap hbp i u hi) (by kernel_rfl))⟩,
                  tri_nwW 2 (fun β b => .agg #[.slice p.ba p.bs.length p.bc, iV p.near, iV p.last, .slice p.ta p.ts.length p.tc, .map (some b)]) (fun β => memO kvM (vvM p.n) []) 35 (fun β => #[.agg #[.slice p.ba p.bs.length p.bc, iV p.near, iV p.last, .slice p.ta p.ts.length p.tc]]) (by kernel_rfl) (fun β extra => by kernel_rfl) (fun β => by kernel_rfl) (fun β b => by kernel_rfl) (fun β b => by kernel_rfl) (fun β b => by kernel_rfl) (fun β w1 k1 h1 => plateOf_any p w1)⟩,
                  tri_vVW (fun β => iV (b0 : Int)) (fun β => by kernel_rfl) (fun β => (Instr.loadAt 3 (pA b_b) >>= fun v => pure (Next.value v))) (by kernel_rfl) (fun β extra => by kernel_rfl) (fun β => by kernel_rfl) (fun β w1 k1 h1 => load_in (base := 0) (off := 0) k1 (fun h => h) [iV (b0 : Int)] (fun i u hi => by rw [Nat.zero_add]; exact cells_of_heap hb_b i u hi) (by kernel_rfl))⟩,
                  tri_vVW (fun β => iV (m0 : Int)) (fun β => by kernel_rfl) (fun β => (Instr.loadAt 3 (pA b_m) >>= fun v => pure (Next.value v))) (by kernel_rfl) (fun β extra => by kernel_rfl) (fun β => by kernel_rfl) (fun β w1 k1 h1 => load_in (base := 0) (off := 0) k1 (fun h => h) [iV (m0 : Int)] (fun i u hi => by rw [Nat.zero_add]; exact cells_of_heap hb_m i u hi) (by kernel_rfl))⟩,
                  tri_dropW (fun β => (β 2)) (fun β => memO kvM (vvM p.n) []) (fun β => []) (fun β => .agg #[iV (p.n.out b0 m0).1, iV (p.n.out b0 m0).2]) 36 (fun β => #[.agg #[.slice p.ba p.bs.length p.bc, iV p.near, iV p.last, .slice p.ta p.ts.length p.tc, .map (some (β 2))], iV (b0 : Int), iV (m0 : Int)]) (by kernel_rfl) (fun β extra => by kernel_rfl) (fun β => by kernel_rfl) (fun β => by kernel_rfl) (fun β => by kernel_rfl) (fun β w1 k1 h1 => ((outermost_any p (β 2) b0 m0 [] w1 (h1 ((β 2), memO kvM (vvM p.n) []) (List.mem_of_getElem? (i := 0) (by kernel_rfl))) ((hp.keep (k1.keeps (fun _ h => h))).map (h1 ((β 2), memO kvM (vvM p.n) []) (List.mem_of_getElem? (i := 0) (by kernel_rfl)))) hF hb0 (by omega)).mono fun e w' ⟨L, _, he, hk, _⟩ => ⟨he, hk⟩))⟩,
                  tri_quietW (fun β => []) [] [] (fun β => []) (by kernel_rfl) (fun β extra => by kernel_rfl) (by kernel_rfl) (fun β => trivial)⟩,
                  tri_vVW (fun β => .slice p.ba p.bs.length p.bc) (fun β => by kernel_rfl) (fun β => (Instr.loadAt 30 (pA bp) >>= fun v => pure (Next.value v))) (by kernel_rfl) (fun β extra => by kernel_rfl) (fun β => by kernel_rfl) (fun β w1 k1 h1 => load_in (base := 0) (off := 0) k1 (fun h => h) [.slice p.ba p.bs.length p.bc, iV p.near, iV p.last, .slice p.ta p.ts.length p.tc] (fun i u hi => by rw [Nat.zero_add]; exact cells_of_heap hbp i u hi) (by kernel_rfl))⟩,
                  tri_vVW (fun β => iV (b0 : Int)) (fun β => by kernel_rfl) (fun β => (Instr.loadAt 3 (pA b_b) >>= fun v => pure (Next.value v))) (by kernel_rfl) (fun β extra => by kernel_rfl) (fun β => by kernel_rfl) (fun β w1 k1 h1 => load_in (base := 0) (off := 0) k1 (fun h => h) [iV (b0 : Int)] (fun i u hi => by rw [Nat.zero_add]; exact cells_of_heap hb_b i u hi) (by kernel_rfl))⟩,
                  tri_vVW (fun β => .pointer (some ⟨bq, oq + b0 * 6, none⟩)) (fun β => by kernel_rfl) (fun β => (Instr.indexAt 30 (.slice p.ba p.bs.length p.bc) (iV (b0 : Int)) >>= fun v => pure (Next.value v))) (by kernel_rfl) (fun β extra => by kernel_rfl) (fun β => by kernel_rfl) (fun β w1 k1 h1 => (by rw [hbq]; exact idx_off (e := 54) (n := 6) (by kernel_rfl) (by kernel_rfl) bq oq p.bs.length p.bc .i64 b0 hb0l (oq + b0 * 6) (by omega) w1))⟩,
                  tri_quietW (fun β => []) [] [] (fun β => []) (by kernel_rfl) (fun β extra => by kernel_rfl) (by kernel_rfl) (fun β => trivial)⟩,
                  tri_vVW (fun β => .agg #[iV (elB p.bs b0).2.2.2.2.1, iV (elB p.bs b0).2.2.2.2.2]) (fun β => by kernel_rfl) (fun β => (Instr.loadAt 23 (.pointer (some ⟨bq, oq + b0 * 6 + 4, none⟩)) >>= fun v => pure (Next.value v))) (by kernel_rfl) (fun β extra => by kernel_rfl) (fun β => by kernel_rfl) (fun β w1 k1 h1 => load_in (off := 4) k1 (fun h => h) [iV (elB p.bs b0).1, iV (elB p.bs b0).2.1, iV (elB p.bs b0).2.2.1, iV (elB p.bs b0).2.2.2.1, iV (elB p.bs b0).2.2.2.2.1, iV (elB p.bs b0).2.2.2.2.2] (c6 hcq.1 hcq.2.1 hcq.2.2.1 hcq.2.2.2.1 hcq.2.2.2.2.1 hcq.2.2.2.2.2) (by kernel_rfl))⟩,
                  tri_callVW (fun β => .agg #[iV ((lonS (p.n.out b0 m0) (elB p.bs b0).2.2.2.2).1), iV ((lonS (p.n.out b0 m0) (elB p.bs b0).2.2.2.2).2)]) (fun β => by kernel_rfl) 39 (fun β => #[.agg #[iV (p.n.out b0 m0).1, iV (p.n.out b0 m0).2], .agg #[iV (elB p.bs b0).2.2.2.2.1, iV (elB p.bs b0).2.2.2.2.2]]) (by kernel_rfl) (fun β extra => by kernel_rfl) (fun β => by kernel_rfl) (fun β w1 k1 h1 => elonger_any (p.n.out b0 m0).1 (p.n.out b0 m0).2 (elB p.bs b0).2.2.2.2.1 (elB p.bs b0).2.2.2.2.2 (lon_bd hF hb0 (m := m0) (by omega) (out_bd hF hb0 (m := m0) (by omega)).1) (lon_bd hF hb0 (m := m0) (by omega) (out_bd hF hb0 (m := m0) (by omega)).2) w1)⟩,
                  tri_quietW (fun β => []) [0] [0] (fun β => [(pA b1, pA b1)]) (by kernel_rfl) (fun β extra => by kernel_rfl) (by kernel_rfl) (fun β => ⟨rfl, trivial⟩)⟩
                  (fun β => ⟨[(3, pA b1)], [(b1, aO #[iV ((lonS (p.n.out b0 m0) (elB p.bs b0).2.2.2.2).1), iV ((lonS (p.n.out b0 m0) (elB p.bs b0).2.2.2.2).2)] 23)]⟩) (fun β => by kernel_rfl) (fun β2 => ?_)
        refine run_end (fn := f38) rfl (Nat.le_refl _) (by kernel_rfl) [0] [.agg #[iV ((lonS (p.n.out b0 m0) (elB p.bs b0).2.2.2.2).1), iV ((lonS (p.n.out b0 m0) (elB p.bs b0).2.2.2.2).2)]] (e := [(pA b1, pA b1)]) (by kernel_rfl) ⟨rfl, trivial⟩ (fun w1 k1 h1 => ?_)
        unfold lonR
        rw [hd1, (show p.n.isB _ = true from hd2), (show p.n.isM _ = true from hd3)]
        exact ⟨rfl, k1.keeps (fun _ h => h)⟩

set_option maxRecDepth 100000 in
set_option maxHeartbeats 2000000 in
theorem set1_any (p : Sb) (b m : Int) (bp b_b b_m : Nat) (w : World) (hp : p.In w) (hbp : w.heap[bp]? = some (.cells #[.slice p.ba p.bs.length p.bc, .int .i64 p.near, .int .i64 p.last, .slice p.ta p.ts.length p.tc] 33 (0, 0))) (hb_b : w.heap[b_b]? = some (.cells #[.int .i64 b] 3 (0, 0))) (hb_m : w.heap[b_m]? = some (.cells #[.int .i64 m] 3 (0, 0)))  : Calls Try.prog 41 #[.pointer (some ⟨bp, 0, none⟩), .pointer (some ⟨b_b, 0, none⟩), .pointer (some ⟨b_m, 0, none⟩)] w (W1 (setR p.n b m) w) := by
  refine calls_run (fn := f41) (c := (f41.body).getD .skip) [.pointer (some ⟨bp, 0, none⟩), .pointer (some ⟨b_b, 0, none⟩), .pointer (some ⟨b_m, 0, none⟩)] func41 (by kernel_rfl) (fun _ => False) [] (fun _ h => by cases h) (List.Pairwise.nil) 17 (by kernel_rfl) (by simp) ?_
  refine run_auto [] 6 [] [] [0, 1, 2, 3] [] (st' := ⟨[(0, pA bp), (1, pA b_b), (2, pA b_m), (3, iV 0)], []⟩) (acc := []) (by kernel_rfl) (by kernel_rfl) trivial ?_
  refine run_v (Instr.loadAt 33 (pA bp) >>= fun v => pure (Next.value v)) (some 4) (.agg #[.slice p.ba p.bs.length p.bc, iV p.near, iV p.last, .slice p.ta p.ts.length p.tc]) (by kernel_rfl) (fun w1 k1 h1 => load_in (base := 0) (off := 0) k1 (fun h => h) [.slice p.ba p.bs.length p.bc, iV p.near, iV p.last, .slice p.ta p.ts.length p.tc] (fun i u hi => by rw [Nat.zero_add]; exact cells_of_heap hbp i u hi) (by kernel_rfl)) ?_
  cases hd1 : p.n.ok with
  | false =>
    exact run_panics rfl (Nat.le_refl _) 32 #[.agg #[.slice p.ba p.bs.length p.bc, iV p.near, iV p.last, .slice p.ta p.ts.length p.tc]] (some 5) (pe 1) (by kernel_rfl) (fun w1 k1 h1 => (by have h := needSettle_any p w1 (hp.keep (k1.keeps (fun _ h => h))); rw [hd1] at h; exact h)) (fun w1 k1 h1 => (by unfold setR; rw [hd1]; exact ⟨rfl, k1.keeps (fun _ h => h)⟩))
  | true =>
    have hF := Sn.fine hd1
    have hln := hF.lastN
    have hl60 := hF.l.2
    have hnN : p.last = (p.n.N : Int) := hln
    have h6 : p.ts.length ≤ 7 := Nat.le_succ_of_le (Sn.ok_t6 (s := p.n) hd1)
    refine run_ret1 32 #[.agg #[.slice p.ba p.bs.length p.bc, iV p.near, iV p.last, .slice p.ta p.ts.length p.tc]] (some 5) (.tuple #[]) (by kernel_rfl) (fun w1 k1 h1 => (by have h := needSettle_any p w1 (hp.keep (k1.keeps (fun _ h => h))); rw [hd1] at h; exact h)) ?_
    refine run_auto [] 3 [] [] [0, 1, 2, 3] [] (st' := ⟨[(0, pA bp), (1, pA b_b), (2, pA b_m), (3, iV 0)], []⟩) (acc := []) (by kernel_rfl) (by kernel_rfl) trivial ?_
    refine run_v (Instr.loadAt 33 (pA bp) >>= fun v => pure (Next.value v)) (some 6) (.agg #[.slice p.ba p.bs.length p.bc, iV p.near, iV p.last, .slice p.ta p.ts.length p.tc]) (by kernel_rfl) (fun w1 k1 h1 => load_in (base := 0) (off := 0) k1 (fun h => h) [.slice p.ba p.bs.length p.bc, iV p.near, iV p.last, .slice p.ta p.ts.length p.tc] (fun i u hi => by rw [Nat.zero_add]; exact cells_of_heap hbp i u hi) (by kernel_rfl)) ?_
    refine run_v (Instr.loadAt 3 (pA b_b) >>= fun v => pure (Next.value v)) (some 7) (iV b) (by kernel_rfl) (fun w1 k1 h1 => load_in (base := 0) (off := 0) k1 (fun h => h) [iV b] (fun i u hi => by rw [Nat.zero_add]; exact cells_of_heap hb_b i u hi) (by kernel_rfl)) ?_
    cases hd2 : (inI b 0 ((p.bs.length : Int) - 1)) with
    | false =>
      exact run_panics rfl (Nat.le_refl _) 33 #[.agg #[.slice p.ba p.bs.length p.bc, iV p.near, iV p.last, .slice p.ta p.ts.length p.tc], iV b] (some 8) (pe 2) (by kernel_rfl) (fun w1 k1 h1 => (by have h := needBlock_any p b w1 hp.lb; rw [hd2] at h; exact h)) (fun w1 k1 h1 => (by unfold setR; rw [hd1, (show p.n.isB _ = false from hd2)]; exact ⟨rfl, k1.keeps (fun _ h => h)⟩))
    | true =>
      obtain ⟨b0, rfl, hb0⟩ := isB_of (s := p.n) hd2
      refine run_ret1 33 #[.agg #[.slice p.ba p.bs.length p.bc, iV p.near, iV p.last, .slice p.ta p.ts.length p.tc], iV (b0 : Int)] (some 8) (.tuple #[]) (by kernel_rfl) (fun w1 k1 h1 => (by have h := needBlock_any p (b0 : Int) w1 hp.lb; rw [hd2] at h; exact h)) ?_
      refine run_auto [] 3 [] [] [0, 1, 2, 3] [] (st' := ⟨[(0, pA bp), (1, pA b_b), (2, pA b_m), (3, iV 0)], []⟩) (acc := []) (by kernel_rfl) (by kernel_rfl) trivial ?_
      refine run_v (Instr.loadAt 33 (pA bp) >>= fun v => pure (Next.value v)) (some 9) (.agg #[.slice p.ba p.bs.length p.bc, iV p.near, iV p.last, .slice p.ta p.ts.length p.tc]) (by kernel_rfl) (fun w1 k1 h1 => load_in (base := 0) (off := 0) k1 (fun h => h) [.slice p.ba p.bs.length p.bc, iV p.near, iV p.last, .slice p.ta p.ts.length p.tc] (fun i u hi => by rw [Nat.zero_add]; exact cells_of_heap hbp i u hi) (by kernel_rfl)) ?_
      refine run_v (Instr.loadAt 3 (pA b_m) >>= fun v => pure (Next.value v)) (some 10) (iV m) (by kernel_rfl) (fun w1 k1 h1 => load_in (base := 0) (off := 0) k1 (fun h => h) [iV m] (fun i u hi => by rw [Nat.zero_add]; exact cells_of_heap hb_m i u hi) (by kernel_rfl)) ?_
      cases hd3 : (inI m 0 p.last) with
      | false =>
        exact run_panics rfl (Nat.le_refl _) 34 #[.agg #[.slice p.ba p.bs.length p.bc, iV p.near, iV p.last, .slice p.ta p.ts.length p.tc], iV m] (some 11) (pe 2) (by kernel_rfl) (fun w1 k1 h1 => (by have h := needMinute_any p m w1; rw [hd3] at h; exact h)) (fun w1 k1 h1 => (by unfold setR; rw [hd1, (show p.n.isB _ = true from hd2), (show p.n.isM _ = false from hd3)]; exact ⟨rfl, k1.keeps (fun _ h => h)⟩))
      | true =>
        obtain ⟨m0, rfl, hm0⟩ := isM_of hF hd3
        refine run_ret1 34 #[.agg #[.slice p.ba p.bs.length p.bc, iV p.near, iV p.last, .slice p.ta p.ts.length p.tc], iV (m0 : Int)] (some 11) (.tuple #[]) (by kernel_rfl) (fun w1 k1 h1 => (by have h := needMinute_any p (m0 : Int) w1; rw [hd3] at h; exact h)) ?_
        refine run_auto [] 2 [] [] [0, 1, 2, 3] [] (st' := ⟨[(0, pA bp), (1, pA b_b), (2, pA b_m), (3, iV 0)], []⟩) (acc := []) (by kernel_rfl) (by kernel_rfl) trivial ?_
        refine drawW 6 [{ val := fun _ => .agg #[.slice p.ba p.bs.length p.bc, iV p.near, iV p.last, .slice p.ta p.ts.length p.tc], slots := [0] },
                  { names := [1], val := fun l => .agg #[.slice p.ba p.bs.length p.bc, iV p.near, iV p.last, .slice p.ta p.ts.length p.tc, .map (some (l.getD 0 0))], upd := [(1, fun l => memO kvM (vvM p.n) [])], news := [1], slots := [12] },
                  { val := fun _ => iV (b0 : Int), slots := [1] },
                  { val := fun _ => iV (m0 : Int), slots := [2] },
                  { val := fun _ => iV (p.n.judge b0 m0), slots := [13, 14, 15], reads := [1], takes := [1] },
                  { val := fun _ => iV (p.n.judge b0 m0), slots := [16] }] [[], [0], [], [], [0, 1, 2, 3], [0, 1, 2, 3, 4]] (by kernel_rfl) (by kernel_rfl) (by kernel_rfl) (by kernel_rfl) [3] [] (by kernel_rfl)
                  ⟨⟨⟨⟨⟨⟨trivial,
                  tri_vVW (fun β => .agg #[.slice p.ba p.bs.length p.bc, iV p.near, iV p.last, .slice p.ta p.ts.length p.tc]) (fun β => by kernel_rfl) (fun β => (Instr.loadAt 33 (pA bp) >>= fun v => pure (Next.value v))) (by kernel_rfl) (fun β extra => by kernel_rfl) (fun β => by kernel_rfl) (fun β w1 k1 h1 => load_in (base := 0) (off := 0) k1 (fun h => h) [.slice p.ba p.bs.length p.bc, iV p.near, iV p.last, .slice p.ta p.ts.length p.tc] (fun i u hi => by rw [Nat.zero_add]; exact cells_of_heap hbp i u hi) (by kernel_rfl))⟩,
                  tri_nwW 1 (fun β b => .agg #[.slice p.ba p.bs.length p.bc, iV p.near, iV p.last, .slice p.ta p.ts.length p.tc, .map (some b)]) (fun β => memO kvM (vvM p.n) []) 35 (fun β => #[.agg #[.slice p.ba p.bs.length p.bc, iV p.near, iV p.last, .slice p.ta p.ts.length p.tc]]) (by kernel_rfl) (fun β extra => by kernel_rfl) (fun β => by kernel_rfl) (fun β b => by kernel_rfl) (fun β b => by kernel_rfl) (fun β b => by kernel_rfl) (fun β w1 k1 h1 => plateOf_any p w1)⟩,
                  tri_vVW (fun β => iV (b0 : Int)) (fun β => by kernel_rfl) (fun β => (Instr.loadAt 3 (pA b_b) >>= fun v => pure (Next.value v))) (by kernel_rfl) (fun β extra => by kernel_rfl) (fun β => by kernel_rfl) (fun β w1 k1 h1 => load_in (base := 0) (off := 0) k1 (fun h => h) [iV (b0 : Int)] (fun i u hi => by rw [Nat.zero_add]; exact cells_of_heap hb_b i u hi) (by kernel_rfl))⟩,
                  tri_vVW (fun β => iV (m0 : Int)) (fun β => by kernel_rfl) (fun β => (Instr.loadAt 3 (pA b_m) >>= fun v => pure (Next.value v))) (by kernel_rfl) (fun β extra => by kernel_rfl) (fun β => by kernel_rfl) (fun β w1 k1 h1 => load_in (base := 0) (off := 0) k1 (fun h => h) [iV (m0 : Int)] (fun i u hi => by rw [Nat.zero_add]; exact cells_of_heap hb_m i u hi) (by kernel_rfl))⟩,
                  tri_dropW (fun β => (β 1)) (fun β => memO kvM (vvM p.n) []) (fun β => []) (fun β => iV (p.n.judge b0 m0)) 42 (fun β => #[.agg #[.slice p.ba p.bs.length p.bc, iV p.near, iV p.last, .slice p.ta p.ts.length p.tc, .map (some (β 1))], iV (b0 : Int), iV (m0 : Int)]) (by kernel_rfl) (fun β extra => by kernel_rfl) (fun β => by kernel_rfl) (fun β => by kernel_rfl) (fun β => by kernel_rfl) (fun β w1 k1 h1 => ((judge_any p (β 1) b0 m0 [] w1 (h1 ((β 1), memO kvM (vvM p.n) []) (List.mem_of_getElem? (i := 0) (by kernel_rfl))) ((hp.keep (k1.keeps (fun _ h => h))).map (h1 ((β 1), memO kvM (vvM p.n) []) (List.mem_of_getElem? (i := 0) (by kernel_rfl)))) hF hb0 (by omega)).mono fun e w' ⟨L, _, he, hk, _⟩ => ⟨he, hk⟩))⟩,
                  tri_quietW (fun β => []) [] [] (fun β => []) (by kernel_rfl) (fun β extra => by kernel_rfl) (by kernel_rfl) (fun β => trivial)⟩
                  (fun β => ⟨[(3, iV (p.n.judge b0 m0))], []⟩) (fun β => by kernel_rfl) (fun β1 => ?_)
        refine run_end (fn := f41) rfl (Nat.le_refl _) (by kernel_rfl) [] [iV (p.n.judge b0 m0)] (e := []) (by kernel_rfl) trivial (fun w1 k1 h1 => ?_)
        unfold setR
        rw [hd1, (show p.n.isB _ = true from hd2), (show p.n.isM _ = true from hd3)]
        exact ⟨rfl, k1.keeps (fun _ h => h)⟩


theorem num_row {w : World} {b : Nat} {n : Nat} {sp : List Value} {t : TypeId} {fr : Nat × Nat} (h : w.heap[b]? = some (.cells ((numL n).flatMap inR ++ sp).toArray t fr)) : ∀ i, i < (List.range n).length → w.cell? ⟨b, i, none⟩ = some (.int .i64 ((elN (List.range n) i : Nat) : Int)) := by
  intro i hi
  rw [List.length_range] at hi
  have h1 := row_cells h i (by rw [numL_len]; exact hi)
  rw [h1]
  unfold elI elN numL
  rw [List.getElem?_map, List.getElem?_range hi]
  rfl
theorem one_row {w : World} {b : Nat} {n : Nat} {t : TypeId} {fr : Nat × Nat} (h : w.heap[b]? = some (.cells #[.int .i64 (n : Int)] t fr)) : ∀ i, i < [n].length → w.cell? ⟨b, i, none⟩ = some (.int .i64 ((elN [n] i : Nat) : Int)) := by
  intro i hi
  have hi0 : i = 0 := by simp at hi; omega
  subst hi0
  exact cells_of_heap (c := [.int .i64 (n : Int)]) h 0 (.int .i64 ((elN [n] 0 : Nat) : Int)) rfl
set_option maxRecDepth 100000 in
set_option maxHeartbeats 2000000 in
theorem when1_any (p : Sb) (b : Int) (bp b_b : Nat) (w : World) (hp : p.In w) (hbp : w.heap[bp]? = some (.cells #[.slice p.ba p.bs.length p.bc, .int .i64 p.near, .int .i64 p.last, .slice p.ta p.ts.length p.tc] 33 (0, 0))) (hb_b : w.heap[b_b]? = some (.cells #[.int .i64 b] 3 (0, 0)))  : Calls Try.prog 43 #[.pointer (some ⟨bp, 0, none⟩), .pointer (some ⟨b_b, 0, none⟩)] w (W1 (whenR p.n b) w) := by
  refine calls_run (fn := f43) (c := (f43.body).getD .skip) [.pointer (some ⟨bp, 0, none⟩), .pointer (some ⟨b_b, 0, none⟩)] func43 (by kernel_rfl) (fun _ => False) [] (fun _ h => by cases h) (List.Pairwise.nil) 16 (by kernel_rfl) (by simp) ?_
  refine run_auto [] 6 [] [] [0, 1, 2] [] (st' := ⟨[(0, pA bp), (1, pA b_b), (2, iV 0)], []⟩) (acc := []) (by kernel_rfl) (by kernel_rfl) trivial ?_
  refine run_v (Instr.loadAt 33 (pA bp) >>= fun v => pure (Next.value v)) (some 3) (.agg #[.slice p.ba p.bs.length p.bc, iV p.near, iV p.last, .slice p.ta p.ts.length p.tc]) (by kernel_rfl) (fun w1 k1 h1 => load_in (base := 0) (off := 0) k1 (fun h => h) [.slice p.ba p.bs.length p.bc, iV p.near, iV p.last, .slice p.ta p.ts.length p.tc] (fun i u hi => by rw [Nat.zero_add]; exact cells_of_heap hbp i u hi) (by kernel_rfl)) ?_
  cases hd1 : p.n.ok with
  | false =>
    exact run_panics rfl (Nat.le_refl _) 32 #[.agg #[.slice p.ba p.bs.length p.bc, iV p.near, iV p.last, .slice p.ta p.ts.length p.tc]] (some 4) (pe 1) (by kernel_rfl) (fun w1 k1 h1 => (by have h := needSettle_any p w1 (hp.keep (k1.keeps (fun _ h => h))); rw [hd1] at h; exact h)) (fun w1 k1 h1 => (by unfold whenR; rw [hd1]; exact ⟨rfl, k1.keeps (fun _ h => h)⟩))
  | true =>
    have hF := Sn.fine hd1
    have hln := hF.lastN
    have hl60 := hF.l.2
    have hnN : p.last = (p.n.N : Int) := hln
    have h6 : p.ts.length ≤ 7 := Nat.le_succ_of_le (Sn.ok_t6 (s := p.n) hd1)
    refine run_ret1 32 #[.agg #[.slice p.ba p.bs.length p.bc, iV p.near, iV p.last, .slice p.ta p.ts.length p.tc]] (some 4) (.tuple #[]) (by kernel_rfl) (fun w1 k1 h1 => (by have h := needSettle_any p w1 (hp.keep (k1.keeps (fun _ h => h))); rw [hd1] at h; exact h)) ?_
    refine run_auto [] 3 [] [] [0, 1, 2] [] (st' := ⟨[(0, pA bp), (1, pA b_b), (2, iV 0)], []⟩) (acc := []) (by kernel_rfl) (by kernel_rfl) trivial ?_
    refine run_v (Instr.loadAt 33 (pA bp) >>= fun v => pure (Next.value v)) (some 5) (.agg #[.slice p.ba p.bs.length p.bc, iV p.near, iV p.last, .slice p.ta p.ts.length p.tc]) (by kernel_rfl) (fun w1 k1 h1 => load_in (base := 0) (off := 0) k1 (fun h => h) [.slice p.ba p.bs.length p.bc, iV p.near, iV p.last, .slice p.ta p.ts.length p.tc] (fun i u hi => by rw [Nat.zero_add]; exact cells_of_heap hbp i u hi) (by kernel_rfl)) ?_
    refine run_v (Instr.loadAt 3 (pA b_b) >>= fun v => pure (Next.value v)) (some 6) (iV b) (by kernel_rfl) (fun w1 k1 h1 => load_in (base := 0) (off := 0) k1 (fun h => h) [iV b] (fun i u hi => by rw [Nat.zero_add]; exact cells_of_heap hb_b i u hi) (by kernel_rfl)) ?_
    cases hd2 : (inI b 0 ((p.bs.length : Int) - 1)) with
    | false =>
      exact run_panics rfl (Nat.le_refl _) 33 #[.agg #[.slice p.ba p.bs.length p.bc, iV p.near, iV p.last, .slice p.ta p.ts.length p.tc], iV b] (some 7) (pe 2) (by kernel_rfl) (fun w1 k1 h1 => (by have h := needBlock_any p b w1 hp.lb; rw [hd2] at h; exact h)) (fun w1 k1 h1 => (by unfold whenR; rw [hd1, (show p.n.isB _ = false from hd2)]; exact ⟨rfl, k1.keeps (fun _ h => h)⟩))
    | true =>
      obtain ⟨b0, rfl, hb0⟩ := isB_of (s := p.n) hd2
      refine run_ret1 33 #[.agg #[.slice p.ba p.bs.length p.bc, iV p.near, iV p.last, .slice p.ta p.ts.length p.tc], iV (b0 : Int)] (some 7) (.tuple #[]) (by kernel_rfl) (fun w1 k1 h1 => (by have h := needBlock_any p (b0 : Int) w1 hp.lb; rw [hd2] at h; exact h)) ?_
      refine run_auto [] 2 [] [] [0, 1, 2] [] (st' := ⟨[(0, pA bp), (1, pA b_b), (2, iV 0)], []⟩) (acc := []) (by kernel_rfl) (by kernel_rfl) trivial ?_
      cases hd3 : (p.n.frm [b0] p.n.N).2 with
      | false =>
        refine drawW 9 [{ val := fun _ => .agg #[.slice p.ba p.bs.length p.bc, iV p.near, iV p.last, .slice p.ta p.ts.length p.tc], slots := [0] },
                  { names := [1], val := fun l => .agg #[.slice p.ba p.bs.length p.bc, iV p.near, iV p.last, .slice p.ta p.ts.length p.tc, .map (some (l.getD 0 0))], upd := [(1, fun l => memO kvM (vvM p.n) [])], news := [1], slots := [8] },
                  { val := fun _ => iV (b0 : Int), slots := [1] },
                  { names := [3], val := fun l => .slice (some ⟨(l.getD 0 0), 0, none⟩) 1 1, upd := [(3, fun l => aO #[iV (b0 : Int)] 3)], news := [3], slots := [10] },
                  { val := fun _ => .tuple #[iV (p.n.frm [b0] p.n.N).1, .bool (p.n.frm [b0] p.n.N).2], slots := [9, 11], reads := [1, 3], takes := [1] },
                  { val := fun _ => iV (p.n.frm [b0] p.n.N).1, slots := [12] },
                  { val := fun _ => .bool false, slots := [12] },
                  { upd := [(7, fun _ => .deferred none)], news := [7], slots := [13, 14] },
                  { reads := [7] }] [[], [0], [], [2], [0, 1, 2, 3], [0, 1, 2, 3, 4], [0, 1, 2, 3, 4], [0, 1, 2, 3, 4, 5, 6], [0, 1, 2, 3, 4, 5, 6, 7]] (by kernel_rfl) (by kernel_rfl) (by kernel_rfl) (by kernel_rfl) [] [7] (by kernel_rfl)
                  ⟨⟨⟨⟨⟨⟨⟨⟨⟨trivial,
                  tri_vVW (fun β => .agg #[.slice p.ba p.bs.length p.bc, iV p.near, iV p.last, .slice p.ta p.ts.length p.tc]) (fun β => by kernel_rfl) (fun β => (Instr.loadAt 33 (pA bp) >>= fun v => pure (Next.value v))) (by kernel_rfl) (fun β extra => by kernel_rfl) (fun β => by kernel_rfl) (fun β w1 k1 h1 => load_in (base := 0) (off := 0) k1 (fun h => h) [.slice p.ba p.bs.length p.bc, iV p.near, iV p.last, .slice p.ta p.ts.length p.tc] (fun i u hi => by rw [Nat.zero_add]; exact cells_of_heap hbp i u hi) (by kernel_rfl))⟩,
                  tri_nwW 1 (fun β b => .agg #[.slice p.ba p.bs.length p.bc, iV p.near, iV p.last, .slice p.ta p.ts.length p.tc, .map (some b)]) (fun β => memO kvM (vvM p.n) []) 35 (fun β => #[.agg #[.slice p.ba p.bs.length p.bc, iV p.near, iV p.last, .slice p.ta p.ts.length p.tc]]) (by kernel_rfl) (fun β extra => by kernel_rfl) (fun β => by kernel_rfl) (fun β b => by kernel_rfl) (fun β b => by kernel_rfl) (fun β b => by kernel_rfl) (fun β w1 k1 h1 => plateOf_any p w1)⟩,
                  tri_vVW (fun β => iV (b0 : Int)) (fun β => by kernel_rfl) (fun β => (Instr.loadAt 3 (pA b_b) >>= fun v => pure (Next.value v))) (by kernel_rfl) (fun β extra => by kernel_rfl) (fun β => by kernel_rfl) (fun β w1 k1 h1 => load_in (base := 0) (off := 0) k1 (fun h => h) [iV (b0 : Int)] (fun i u hi => by rw [Nat.zero_add]; exact cells_of_heap hb_b i u hi) (by kernel_rfl))⟩,
                  tri_newW 3 (fun β => aO #[iV (b0 : Int)] 3) (fun β b => sV b 1 1) [0] (by kernel_rfl) (fun β extra b => by kernel_rfl) (by kernel_rfl) (fun β b => by kernel_rfl) (fun β b => by kernel_rfl) (fun β b => by kernel_rfl)⟩,
                  tri_dropW (fun β => (β 1)) (fun β => memO kvM (vvM p.n) []) (fun β => [((β 3), aO #[iV (b0 : Int)] 3)]) (fun β => .tuple #[iV (p.n.frm [b0] p.n.N).1, .bool (p.n.frm [b0] p.n.N).2]) 45 (fun β => #[.agg #[.slice p.ba p.bs.length p.bc, iV p.near, iV p.last, .slice p.ta p.ts.length p.tc, .map (some (β 1))], .slice (some ⟨(β 3), 0, none⟩) 1 1]) (by kernel_rfl) (fun β extra => by kernel_rfl) (fun β => by kernel_rfl) (fun β => by kernel_rfl) (fun β => by kernel_rfl) (fun β w1 k1 h1 => settledFrom_any p (β 1) (β 3) 1 p.n.N [b0] [] w1 (h1 ((β 1), memO kvM (vvM p.n) []) (List.mem_of_getElem? (i := 0) (by kernel_rfl))) ((hp.keep (k1.keeps (fun _ h => h))).map (h1 ((β 1), memO kvM (vvM p.n) []) (List.mem_of_getElem? (i := 0) (by kernel_rfl)))) hF hnN (by intro b hb; rw [List.mem_singleton] at hb; subst hb; exact hb0) (by simp) (ne_map (h1 ((β 3), aO #[iV (b0 : Int)] 3) (List.mem_of_getElem? (i := 1) (by kernel_rfl))) (h1 ((β 1), memO kvM (vvM p.n) []) (List.mem_of_getElem? (i := 0) (by kernel_rfl))) rfl) (one_row (h1 ((β 3), aO #[iV (b0 : Int)] 3) (List.mem_of_getElem? (i := 1) (by kernel_rfl)))))⟩,
                  tri_quietW (fun β => []) [] [] (fun β => []) (by kernel_rfl) (fun β extra => by kernel_rfl) (by kernel_rfl) (fun β => trivial)⟩,
                  tri_quietW (fun β => [(14, .bool false)]) [] [] (fun β => [(.bool (p.n.frm [b0] p.n.N).2, .bool false)]) (by kernel_rfl) (fun β extra => by kernel_rfl) (by kernel_rfl) (fun β => ⟨(bo hd3), trivial⟩)⟩,
                  tri_panicsW rfl (Nat.le_refl _) 44 (fun β => #[iV (p.n.frm [b0] p.n.N).1, .bool false]) (pe 4) (fun β extra => by kernel_rfl) (fun β w1 k1 h1 => (by have h := needFound_any (p.n.frm [b0] p.n.N).1 false w1; unfold Fnd at h; exact h)) (fun w1 k1 => (by unfold whenR; rw [hd1, (show p.n.isB _ = true from hd2)]; unfold fmR; (try simp only [Int.toNat_natCast]); rw [show (p.n.frm [b0] p.n.N).2 = false from hd3]; exact ⟨rfl, k1.keeps (fun _ h => h)⟩))⟩,
                  tri_voidW (fun β => ⟨β 7, [], by kernel_rfl⟩)⟩
                  (fun β => ⟨[], [(β 7, .deferred none)]⟩) (fun β => by kernel_rfl) (fun β1 => run_void)
      | true =>
        refine drawW 9 [{ val := fun _ => .agg #[.slice p.ba p.bs.length p.bc, iV p.near, iV p.last, .slice p.ta p.ts.length p.tc], slots := [0] },
                  { names := [1], val := fun l => .agg #[.slice p.ba p.bs.length p.bc, iV p.near, iV p.last, .slice p.ta p.ts.length p.tc, .map (some (l.getD 0 0))], upd := [(1, fun l => memO kvM (vvM p.n) [])], news := [1], slots := [8] },
                  { val := fun _ => iV (b0 : Int), slots := [1] },
                  { names := [3], val := fun l => .slice (some ⟨(l.getD 0 0), 0, none⟩) 1 1, upd := [(3, fun l => aO #[iV (b0 : Int)] 3)], news := [3], slots := [10] },
                  { val := fun _ => .tuple #[iV (p.n.frm [b0] p.n.N).1, .bool (p.n.frm [b0] p.n.N).2], slots := [9, 11], reads := [1, 3], takes := [1] },
                  { val := fun _ => iV (p.n.frm [b0] p.n.N).1, slots := [12] },
                  { val := fun _ => .bool true, slots := [12] },
                  { val := fun _ => iV (p.n.frm [b0] p.n.N).1, slots := [13, 14] },
                  { val := fun _ => iV (p.n.frm [b0] p.n.N).1, slots := [15] }] [[], [0], [], [2], [0, 1, 2, 3], [0, 1, 2, 3, 4], [0, 1, 2, 3, 4], [0, 1, 2, 3, 4, 5, 6], [0, 1, 2, 3, 4, 5, 6, 7]] (by kernel_rfl) (by kernel_rfl) (by kernel_rfl) (by kernel_rfl) [2] [] (by kernel_rfl)
                  ⟨⟨⟨⟨⟨⟨⟨⟨⟨trivial,
                  tri_vVW (fun β => .agg #[.slice p.ba p.bs.length p.bc, iV p.near, iV p.last, .slice p.ta p.ts.length p.tc]) (fun β => by kernel_rfl) (fun β => (Instr.loadAt 33 (pA bp) >>= fun v => pure (Next.value v))) (by kernel_rfl) (fun β extra => by kernel_rfl) (fun β => by kernel_rfl) (fun β w1 k1 h1 => load_in (base := 0) (off := 0) k1 (fun h => h) [.slice p.ba p.bs.length p.bc, iV p.near, iV p.last, .slice p.ta p.ts.length p.tc] (fun i u hi => by rw [Nat.zero_add]; exact cells_of_heap hbp i u hi) (by kernel_rfl))⟩,
                  tri_nwW 1 (fun β b => .agg #[.slice p.ba p.bs.length p.bc, iV p.near, iV p.last, .slice p.ta p.ts.length p.tc, .map (some b)]) (fun β => memO kvM (vvM p.n) []) 35 (fun β => #[.agg #[.slice p.ba p.bs.length p.bc, iV p.near, iV p.last, .slice p.ta p.ts.length p.tc]]) (by kernel_rfl) (fun β extra => by kernel_rfl) (fun β => by kernel_rfl) (fun β b => by kernel_rfl) (fun β b => by kernel_rfl) (fun β b => by kernel_rfl) (fun β w1 k1 h1 => plateOf_any p w1)⟩,
                  tri_vVW (fun β => iV (b0 : Int)) (fun β => by kernel_rfl) (fun β => (Instr.loadAt 3 (pA b_b) >>= fun v => pure (Next.value v))) (by kernel_rfl) (fun β extra => by kernel_rfl) (fun β => by kernel_rfl) (fun β w1 k1 h1 => load_in (base := 0) (off := 0) k1 (fun h => h) [iV (b0 : Int)] (fun i u hi => by rw [Nat.zero_add]; exact cells_of_heap hb_b i u hi) (by kernel_rfl))⟩,
                  tri_newW 3 (fun β => aO #[iV (b0 : Int)] 3) (fun β b => sV b 1 1) [0] (by kernel_rfl) (fun β extra b => by kernel_rfl) (by kernel_rfl) (fun β b => by kernel_rfl) (fun β b => by kernel_rfl) (fun β b => by kernel_rfl)⟩,
                  tri_dropW (fun β => (β 1)) (fun β => memO kvM (vvM p.n) []) (fun β => [((β 3), aO #[iV (b0 : Int)] 3)]) (fun β => .tuple #[iV (p.n.frm [b0] p.n.N).1, .bool (p.n.frm [b0] p.n.N).2]) 45 (fun β => #[.agg #[.slice p.ba p.bs.length p.bc, iV p.near, iV p.last, .slice p.ta p.ts.length p.tc, .map (some (β 1))], .slice (some ⟨(β 3), 0, none⟩) 1 1]) (by kernel_rfl) (fun β extra => by kernel_rfl) (fun β => by kernel_rfl) (fun β => by kernel_rfl) (fun β => by kernel_rfl) (fun β w1 k1 h1 => settledFrom_any p (β 1) (β 3) 1 p.n.N [b0] [] w1 (h1 ((β 1), memO kvM (vvM p.n) []) (List.mem_of_getElem? (i := 0) (by kernel_rfl))) ((hp.keep (k1.keeps (fun _ h => h))).map (h1 ((β 1), memO kvM (vvM p.n) []) (List.mem_of_getElem? (i := 0) (by kernel_rfl)))) hF hnN (by intro b hb; rw [List.mem_singleton] at hb; subst hb; exact hb0) (by simp) (ne_map (h1 ((β 3), aO #[iV (b0 : Int)] 3) (List.mem_of_getElem? (i := 1) (by kernel_rfl))) (h1 ((β 1), memO kvM (vvM p.n) []) (List.mem_of_getElem? (i := 0) (by kernel_rfl))) rfl) (one_row (h1 ((β 3), aO #[iV (b0 : Int)] 3) (List.mem_of_getElem? (i := 1) (by kernel_rfl)))))⟩,
                  tri_quietW (fun β => []) [] [] (fun β => []) (by kernel_rfl) (fun β extra => by kernel_rfl) (by kernel_rfl) (fun β => trivial)⟩,
                  tri_quietW (fun β => [(14, .bool true)]) [] [] (fun β => [(.bool (p.n.frm [b0] p.n.N).2, .bool true)]) (by kernel_rfl) (fun β extra => by kernel_rfl) (by kernel_rfl) (fun β => ⟨(bo hd3), trivial⟩)⟩,
                  tri_callVW (fun β => iV (p.n.frm [b0] p.n.N).1) (fun β => by kernel_rfl) 44 (fun β => #[iV (p.n.frm [b0] p.n.N).1, .bool true]) (by kernel_rfl) (fun β extra => by kernel_rfl) (fun β => by kernel_rfl) (fun β w1 k1 h1 => (by have h := needFound_any (p.n.frm [b0] p.n.N).1 true w1; unfold Fnd at h; exact h))⟩,
                  tri_quietW (fun β => []) [] [] (fun β => []) (by kernel_rfl) (fun β extra => by kernel_rfl) (by kernel_rfl) (fun β => trivial)⟩
                  (fun β => ⟨[(2, iV (p.n.frm [b0] p.n.N).1)], []⟩) (fun β => by kernel_rfl) (fun β1 => ?_)
        refine run_end (fn := f43) rfl (Nat.le_refl _) (by kernel_rfl) [] [iV (p.n.frm [b0] p.n.N).1] (e := []) (by kernel_rfl) trivial (fun w1 k1 h1 => ?_)
        unfold whenR
        rw [hd1, (show p.n.isB _ = true from hd2)]
        unfold fmR
        try simp only [Int.toNat_natCast]
        rw [show (p.n.frm [b0] p.n.N).2 = true from hd3]
        exact ⟨rfl, k1.keeps (fun _ h => h)⟩

set_option maxRecDepth 100000 in
set_option maxHeartbeats 2000000 in
theorem all1_any (p : Sb) (bp : Nat) (w : World) (hp : p.In w) (hbp : w.heap[bp]? = some (.cells #[.slice p.ba p.bs.length p.bc, .int .i64 p.near, .int .i64 p.last, .slice p.ta p.ts.length p.tc] 33 (0, 0)))   : Calls Try.prog 67 #[.pointer (some ⟨bp, 0, none⟩)] w (W1 (allR p.n) w) := by
  refine calls_run (fn := f67) (c := (f67.body).getD .skip) [.pointer (some ⟨bp, 0, none⟩)] func67 (by kernel_rfl) (fun _ => False) [] (fun _ h => by cases h) (List.Pairwise.nil) 13 (by kernel_rfl) (by simp) ?_
  refine run_auto [] 6 [] [] [0, 1] [] (st' := ⟨[(0, pA bp), (1, iV 0)], []⟩) (acc := []) (by kernel_rfl) (by kernel_rfl) trivial ?_
  refine run_v (Instr.loadAt 33 (pA bp) >>= fun v => pure (Next.value v)) (some 2) (.agg #[.slice p.ba p.bs.length p.bc, iV p.near, iV p.last, .slice p.ta p.ts.length p.tc]) (by kernel_rfl) (fun w1 k1 h1 => load_in (base := 0) (off := 0) k1 (fun h => h) [.slice p.ba p.bs.length p.bc, iV p.near, iV p.last, .slice p.ta p.ts.length p.tc] (fun i u hi => by rw [Nat.zero_add]; exact cells_of_heap hbp i u hi) (by kernel_rfl)) ?_
  cases hd1 : p.n.ok with
  | false =>
    exact run_panics rfl (Nat.le_refl _) 32 #[.agg #[.slice p.ba p.bs.length p.bc, iV p.near, iV p.last, .slice p.ta p.ts.length p.tc]] (some 3) (pe 1) (by kernel_rfl) (fun w1 k1 h1 => (by have h := needSettle_any p w1 (hp.keep (k1.keeps (fun _ h => h))); rw [hd1] at h; exact h)) (fun w1 k1 h1 => (by unfold allR; rw [hd1]; exact ⟨rfl, k1.keeps (fun _ h => h)⟩))
  | true =>
    have hF := Sn.fine hd1
    have hln := hF.lastN
    have hl60 := hF.l.2
    have hnN : p.last = (p.n.N : Int) := hln
    have h6 : p.ts.length ≤ 7 := Nat.le_succ_of_le (Sn.ok_t6 (s := p.n) hd1)
    refine run_ret1 32 #[.agg #[.slice p.ba p.bs.length p.bc, iV p.near, iV p.last, .slice p.ta p.ts.length p.tc]] (some 3) (.tuple #[]) (by kernel_rfl) (fun w1 k1 h1 => (by have h := needSettle_any p w1 (hp.keep (k1.keeps (fun _ h => h))); rw [hd1] at h; exact h)) ?_
    refine run_auto [] 2 [] [] [0, 1] [] (st' := ⟨[(0, pA bp), (1, iV 0)], []⟩) (acc := []) (by kernel_rfl) (by kernel_rfl) trivial ?_
    cases hd2 : ((p.n.frm (List.range p.bs.length) p.n.N).2) with
    | false =>
      refine drawW 10 [{ val := fun _ => .agg #[.slice p.ba p.bs.length p.bc, iV p.near, iV p.last, .slice p.ta p.ts.length p.tc], slots := [0] },
              { names := [1], val := fun l => .agg #[.slice p.ba p.bs.length p.bc, iV p.near, iV p.last, .slice p.ta p.ts.length p.tc, .map (some (l.getD 0 0))], upd := [(1, fun l => memO kvM (vvM p.n) [])], news := [1], slots := [4] },
              { val := fun _ => pA bp, slots := [0] },
              { val := fun _ => .slice p.ba p.bs.length p.bc, slots := [6] },
              { names := [4, 1000004, 2000004], val := fun l => .slice (some ⟨(l.getD 0 0), 0, none⟩) p.bs.length (p.bs.length + (l.getD 1 0)), upd := [(4, fun l => cO ((numL p.bs.length).flatMap inR ++ zR (l.getD 1 0)) 3)], news := [4, 1000004, 2000004], slots := [7] },
              { val := fun _ => .tuple #[iV ((p.n.frm (List.range p.bs.length) p.n.N).1), .bool ((p.n.frm (List.range p.bs.length) p.n.N).2)], slots := [5, 8], reads := [1, 4], takes := [1] },
              { val := fun _ => iV ((p.n.frm (List.range p.bs.length) p.n.N).1), slots := [9] },
              { val := fun _ => .bool false, slots := [9] },
              { upd := [(8, fun _ => .deferred none)], news := [8], slots := [10, 11] },
              { reads := [8] }] [[], [0], [], [2], [0, 1, 2, 3], [0, 1, 2, 3, 4], [0, 1, 2, 3, 4, 5], [0, 1, 2, 3, 4, 5], [0, 1, 2, 3, 4, 5, 6, 7], [0, 1, 2, 3, 4, 5, 6, 7, 8]] (by kernel_rfl) (by kernel_rfl) (by kernel_rfl) (by kernel_rfl) [] [8] (by kernel_rfl)
              ⟨⟨⟨⟨⟨⟨⟨⟨⟨⟨trivial,
              tri_vVW (fun β => .agg #[.slice p.ba p.bs.length p.bc, iV p.near, iV p.last, .slice p.ta p.ts.length p.tc]) (fun β => by kernel_rfl) (fun β => (Instr.loadAt 33 (pA bp) >>= fun v => pure (Next.value v))) (by kernel_rfl) (fun β extra => by kernel_rfl) (fun β => by kernel_rfl) (fun β w1 k1 h1 => load_in (base := 0) (off := 0) k1 (fun h => h) [.slice p.ba p.bs.length p.bc, iV p.near, iV p.last, .slice p.ta p.ts.length p.tc] (fun i u hi => by rw [Nat.zero_add]; exact cells_of_heap hbp i u hi) (by kernel_rfl))⟩,
              tri_nwW 1 (fun β b => .agg #[.slice p.ba p.bs.length p.bc, iV p.near, iV p.last, .slice p.ta p.ts.length p.tc, .map (some b)]) (fun β => memO kvM (vvM p.n) []) 35 (fun β => #[.agg #[.slice p.ba p.bs.length p.bc, iV p.near, iV p.last, .slice p.ta p.ts.length p.tc]]) (by kernel_rfl) (fun β extra => by kernel_rfl) (fun β => by kernel_rfl) (fun β b => by kernel_rfl) (fun β b => by kernel_rfl) (fun β b => by kernel_rfl) (fun β w1 k1 h1 => plateOf_any p w1)⟩,
              tri_quietW (fun β => []) [] [] (fun β => []) (by kernel_rfl) (fun β extra => by kernel_rfl) (by kernel_rfl) (fun β => trivial)⟩,
              tri_vVW (fun β => .slice p.ba p.bs.length p.bc) (fun β => by kernel_rfl) (fun β => (Instr.loadAt 30 (pA bp) >>= fun v => pure (Next.value v))) (by kernel_rfl) (fun β extra => by kernel_rfl) (fun β => by kernel_rfl) (fun β w1 k1 h1 => load_in (base := 0) (off := 0) k1 (fun h => h) [.slice p.ba p.bs.length p.bc, iV p.near, iV p.last, .slice p.ta p.ts.length p.tc] (fun i u hi => by rw [Nat.zero_add]; exact cells_of_heap hbp i u hi) (by kernel_rfl))⟩,
              tri_nwn 4 1000004 2000004 rfl rfl (fun β nb_ nx_ ny_ => sV nb_ p.bs.length (p.bs.length + nx_)) (fun β nb_ nx_ ny_ => cO ((numL p.bs.length).flatMap inR ++ zR nx_) 3) 68 (fun β => #[.slice p.ba p.bs.length p.bc]) (by kernel_rfl) (fun β extra => by kernel_rfl) (fun β nb_ nx_ ny_ => rfl) (fun β nb_ nx_ ny_ => by kernel_rfl) (fun β nb_ nx_ ny_ => by kernel_rfl) (fun β nb_ nx_ ny_ => by kernel_rfl) (fun β w1 k1 h1 => numbersOf_any p w1 hF.n1 hF.n4)⟩,
              tri_dropW (fun β => (β 1)) (fun β => memO kvM (vvM p.n) []) (fun β => [((β 4), cO ((numL p.bs.length).flatMap inR ++ zR (β 1000004)) 3)]) (fun β => .tuple #[iV ((p.n.frm (List.range p.bs.length) p.n.N).1), .bool ((p.n.frm (List.range p.bs.length) p.n.N).2)]) 45 (fun β => #[.agg #[.slice p.ba p.bs.length p.bc, iV p.near, iV p.last, .slice p.ta p.ts.length p.tc, .map (some (β 1))], .slice (some ⟨(β 4), 0, none⟩) p.bs.length (p.bs.length + (β 1000004))]) (by kernel_rfl) (fun β extra => by kernel_rfl) (fun β => by kernel_rfl) (fun β => by kernel_rfl) (fun β => by kernel_rfl) (fun β w1 k1 h1 => (by have h := settledFrom_any p (β 1) (β 4) (p.bs.length + (β 1000004)) p.n.N (List.range p.bs.length) [] w1 (h1 ((β 1), memO kvM (vvM p.n) []) (List.mem_of_getElem? (i := 0) (by kernel_rfl))) ((hp.keep (k1.keeps (fun _ h => h))).map (h1 ((β 1), memO kvM (vvM p.n) []) (List.mem_of_getElem? (i := 0) (by kernel_rfl)))) hF hnN (by intro b hb; exact List.mem_range.1 hb) (by rw [List.length_range]; exact hF.n4) (ne_map (h1 ((β 4), cO ((numL p.bs.length).flatMap inR ++ zR (β 1000004)) 3) (List.mem_of_getElem? (i := 1) (by kernel_rfl))) (h1 ((β 1), memO kvM (vvM p.n) []) (List.mem_of_getElem? (i := 0) (by kernel_rfl))) rfl) (num_row (h1 ((β 4), cO ((numL p.bs.length).flatMap inR ++ zR (β 1000004)) 3) (List.mem_of_getElem? (i := 1) (by kernel_rfl)))); rw [List.length_range] at h; exact h))⟩,
              tri_quietW (fun β => []) [] [] (fun β => []) (by kernel_rfl) (fun β extra => by kernel_rfl) (by kernel_rfl) (fun β => trivial)⟩,
              tri_quietW (fun β => [(11, .bool false)]) [] [] (fun β => [(.bool ((p.n.frm (List.range p.bs.length) p.n.N).2), .bool false)]) (by kernel_rfl) (fun β extra => by kernel_rfl) (by kernel_rfl) (fun β => ⟨(bo hd2), trivial⟩)⟩,
              tri_panicsW rfl (Nat.le_refl _) 44 (fun β => #[iV ((p.n.frm (List.range p.bs.length) p.n.N).1), .bool false]) (pe 4) (fun β extra => by kernel_rfl) (fun β w1 k1 h1 => (by have h := needFound_any ((p.n.frm (List.range p.bs.length) p.n.N).1) false w1; unfold Fnd at h; exact h)) (fun w1 k1 => (by unfold allR; rw [hd1]; unfold fmR; (try simp only [Int.toNat_natCast]); rw [show (p.n.frm (List.range p.n.bs.length) p.n.N).2 = false from hd2]; exact ⟨rfl, k1.keeps (fun _ h => h)⟩))⟩,
              tri_voidW (fun β => ⟨β 8, [], by kernel_rfl⟩)⟩
              (fun β => ⟨[], [(β 8, .deferred none)]⟩) (fun β => by kernel_rfl) (fun β1 => run_void)
    | true =>
      refine drawW 10 [{ val := fun _ => .agg #[.slice p.ba p.bs.length p.bc, iV p.near, iV p.last, .slice p.ta p.ts.length p.tc], slots := [0] },
              { names := [1], val := fun l => .agg #[.slice p.ba p.bs.length p.bc, iV p.near, iV p.last, .slice p.ta p.ts.length p.tc, .map (some (l.getD 0 0))], upd := [(1, fun l => memO kvM (vvM p.n) [])], news := [1], slots := [4] },
              { val := fun _ => pA bp, slots := [0] },
              { val := fun _ => .slice p.ba p.bs.length p.bc, slots := [6] },
              { names := [4, 1000004, 2000004], val := fun l => .slice (some ⟨(l.getD 0 0), 0, none⟩) p.bs.length (p.bs.length + (l.getD 1 0)), upd := [(4, fun l => cO ((numL p.bs.length).flatMap inR ++ zR (l.getD 1 0)) 3)], news := [4, 1000004, 2000004], slots := [7] },
              { val := fun _ => .tuple #[iV ((p.n.frm (List.range p.bs.length) p.n.N).1), .bool ((p.n.frm (List.range p.bs.length) p.n.N).2)], slots := [5, 8], reads := [1, 4], takes := [1] },
              { val := fun _ => iV ((p.n.frm (List.range p.bs.length) p.n.N).1), slots := [9] },
              { val := fun _ => .bool true, slots := [9] },
              { val := fun _ => iV ((p.n.frm (List.range p.bs.length) p.n.N).1), slots := [10, 11] },
              { val := fun _ => iV ((p.n.frm (List.range p.bs.length) p.n.N).1), slots := [12] }] [[], [0], [], [2], [0, 1, 2, 3], [0, 1, 2, 3, 4], [0, 1, 2, 3, 4, 5], [0, 1, 2, 3, 4, 5], [0, 1, 2, 3, 4, 5, 6, 7], [0, 1, 2, 3, 4, 5, 6, 7, 8]] (by kernel_rfl) (by kernel_rfl) (by kernel_rfl) (by kernel_rfl) [1] [] (by kernel_rfl)
              ⟨⟨⟨⟨⟨⟨⟨⟨⟨⟨trivial,
              tri_vVW (fun β => .agg #[.slice p.ba p.bs.length p.bc, iV p.near, iV p.last, .slice p.ta p.ts.length p.tc]) (fun β => by kernel_rfl) (fun β => (Instr.loadAt 33 (pA bp) >>= fun v => pure (Next.value v))) (by kernel_rfl) (fun β extra => by kernel_rfl) (fun β => by kernel_rfl) (fun β w1 k1 h1 => load_in (base := 0) (off := 0) k1 (fun h => h) [.slice p.ba p.bs.length p.bc, iV p.near, iV p.last, .slice p.ta p.ts.length p.tc] (fun i u hi => by rw [Nat.zero_add]; exact cells_of_heap hbp i u hi) (by kernel_rfl))⟩,
              tri_nwW 1 (fun β b => .agg #[.slice p.ba p.bs.length p.bc, iV p.near, iV p.last, .slice p.ta p.ts.length p.tc, .map (some b)]) (fun β => memO kvM (vvM p.n) []) 35 (fun β => #[.agg #[.slice p.ba p.bs.length p.bc, iV p.near, iV p.last, .slice p.ta p.ts.length p.tc]]) (by kernel_rfl) (fun β extra => by kernel_rfl) (fun β => by kernel_rfl) (fun β b => by kernel_rfl) (fun β b => by kernel_rfl) (fun β b => by kernel_rfl) (fun β w1 k1 h1 => plateOf_any p w1)⟩,
              tri_quietW (fun β => []) [] [] (fun β => []) (by kernel_rfl) (fun β extra => by kernel_rfl) (by kernel_rfl) (fun β => trivial)⟩,
              tri_vVW (fun β => .slice p.ba p.bs.length p.bc) (fun β => by kernel_rfl) (fun β => (Instr.loadAt 30 (pA bp) >>= fun v => pure (Next.value v))) (by kernel_rfl) (fun β extra => by kernel_rfl) (fun β => by kernel_rfl) (fun β w1 k1 h1 => load_in (base := 0) (off := 0) k1 (fun h => h) [.slice p.ba p.bs.length p.bc, iV p.near, iV p.last, .slice p.ta p.ts.length p.tc] (fun i u hi => by rw [Nat.zero_add]; exact cells_of_heap hbp i u hi) (by kernel_rfl))⟩,
              tri_nwn 4 1000004 2000004 rfl rfl (fun β nb_ nx_ ny_ => sV nb_ p.bs.length (p.bs.length + nx_)) (fun β nb_ nx_ ny_ => cO ((numL p.bs.length).flatMap inR ++ zR nx_) 3) 68 (fun β => #[.slice p.ba p.bs.length p.bc]) (by kernel_rfl) (fun β extra => by kernel_rfl) (fun β nb_ nx_ ny_ => rfl) (fun β nb_ nx_ ny_ => by kernel_rfl) (fun β nb_ nx_ ny_ => by kernel_rfl) (fun β nb_ nx_ ny_ => by kernel_rfl) (fun β w1 k1 h1 => numbersOf_any p w1 hF.n1 hF.n4)⟩,
              tri_dropW (fun β => (β 1)) (fun β => memO kvM (vvM p.n) []) (fun β => [((β 4), cO ((numL p.bs.length).flatMap inR ++ zR (β 1000004)) 3)]) (fun β => .tuple #[iV ((p.n.frm (List.range p.bs.length) p.n.N).1), .bool ((p.n.frm (List.range p.bs.length) p.n.N).2)]) 45 (fun β => #[.agg #[.slice p.ba p.bs.length p.bc, iV p.near, iV p.last, .slice p.ta p.ts.length p.tc, .map (some (β 1))], .slice (some ⟨(β 4), 0, none⟩) p.bs.length (p.bs.length + (β 1000004))]) (by kernel_rfl) (fun β extra => by kernel_rfl) (fun β => by kernel_rfl) (fun β => by kernel_rfl) (fun β => by kernel_rfl) (fun β w1 k1 h1 => (by have h := settledFrom_any p (β 1) (β 4) (p.bs.length + (β 1000004)) p.n.N (List.range p.bs.length) [] w1 (h1 ((β 1), memO kvM (vvM p.n) []) (List.mem_of_getElem? (i := 0) (by kernel_rfl))) ((hp.keep (k1.keeps (fun _ h => h))).map (h1 ((β 1), memO kvM (vvM p.n) []) (List.mem_of_getElem? (i := 0) (by kernel_rfl)))) hF hnN (by intro b hb; exact List.mem_range.1 hb) (by rw [List.length_range]; exact hF.n4) (ne_map (h1 ((β 4), cO ((numL p.bs.length).flatMap inR ++ zR (β 1000004)) 3) (List.mem_of_getElem? (i := 1) (by kernel_rfl))) (h1 ((β 1), memO kvM (vvM p.n) []) (List.mem_of_getElem? (i := 0) (by kernel_rfl))) rfl) (num_row (h1 ((β 4), cO ((numL p.bs.length).flatMap inR ++ zR (β 1000004)) 3) (List.mem_of_getElem? (i := 1) (by kernel_rfl)))); rw [List.length_range] at h; exact h))⟩,
              tri_quietW (fun β => []) [] [] (fun β => []) (by kernel_rfl) (fun β extra => by kernel_rfl) (by kernel_rfl) (fun β => trivial)⟩,
              tri_quietW (fun β => [(11, .bool true)]) [] [] (fun β => [(.bool ((p.n.frm (List.range p.bs.length) p.n.N).2), .bool true)]) (by kernel_rfl) (fun β extra => by kernel_rfl) (by kernel_rfl) (fun β => ⟨(bo hd2), trivial⟩)⟩,
              tri_callVW (fun β => iV ((p.n.frm (List.range p.bs.length) p.n.N).1)) (fun β => by kernel_rfl) 44 (fun β => #[iV ((p.n.frm (List.range p.bs.length) p.n.N).1), .bool true]) (by kernel_rfl) (fun β extra => by kernel_rfl) (fun β => by kernel_rfl) (fun β w1 k1 h1 => (by have h := needFound_any ((p.n.frm (List.range p.bs.length) p.n.N).1) true w1; unfold Fnd at h; exact h))⟩,
              tri_quietW (fun β => []) [] [] (fun β => []) (by kernel_rfl) (fun β extra => by kernel_rfl) (by kernel_rfl) (fun β => trivial)⟩
              (fun β => ⟨[(1, iV ((p.n.frm (List.range p.bs.length) p.n.N).1))], []⟩) (fun β => by kernel_rfl) (fun β1 => ?_)
      refine run_end (fn := f67) rfl (Nat.le_refl _) (by kernel_rfl) [] [iV ((p.n.frm (List.range p.bs.length) p.n.N).1)] (e := []) (by kernel_rfl) trivial (fun w1 k1 h1 => ?_)
      unfold allR
      rw [hd1]
      unfold fmR
      try simp only [Int.toNat_natCast]
      rw [show (p.n.frm (List.range p.n.bs.length) p.n.N).2 = true from hd2]
      exact ⟨rfl, k1.keeps (fun _ h => h)⟩

set_option maxRecDepth 100000 in
set_option maxHeartbeats 2000000 in
theorem rest1_any (p : Sb) (b : Int) (bp b_b : Nat) (w : World) (hp : p.In w) (hbp : w.heap[bp]? = some (.cells #[.slice p.ba p.bs.length p.bc, .int .i64 p.near, .int .i64 p.last, .slice p.ta p.ts.length p.tc] 33 (0, 0))) (hb_b : w.heap[b_b]? = some (.cells #[.int .i64 b] 3 (0, 0)))  : Calls Try.prog 47 #[.pointer (some ⟨bp, 0, none⟩), .pointer (some ⟨b_b, 0, none⟩)] w (WL (restR p.n b) w) := by
  refine calls_run (fn := f47) (c := (f47.body).getD .skip) [.pointer (some ⟨bp, 0, none⟩), .pointer (some ⟨b_b, 0, none⟩)] func47 (by kernel_rfl) (fun _ => False) [] (fun _ h => by cases h) (List.Pairwise.nil) 12 (by kernel_rfl) (by simp) ?_
  refine run_auto [] 6 [] [] [0, 1, 2] [] (st' := ⟨[(0, pA bp), (1, pA b_b), (2, .slice none 0 0)], []⟩) (acc := []) (by kernel_rfl) (by kernel_rfl) trivial ?_
  refine run_v (Instr.loadAt 33 (pA bp) >>= fun v => pure (Next.value v)) (some 3) (.agg #[.slice p.ba p.bs.length p.bc, iV p.near, iV p.last, .slice p.ta p.ts.length p.tc]) (by kernel_rfl) (fun w1 k1 h1 => load_in (base := 0) (off := 0) k1 (fun h => h) [.slice p.ba p.bs.length p.bc, iV p.near, iV p.last, .slice p.ta p.ts.length p.tc] (fun i u hi => by rw [Nat.zero_add]; exact cells_of_heap hbp i u hi) (by kernel_rfl)) ?_
  cases hd1 : p.n.ok with
  | false =>
    exact run_panics rfl (Nat.le_refl _) 32 #[.agg #[.slice p.ba p.bs.length p.bc, iV p.near, iV p.last, .slice p.ta p.ts.length p.tc]] (some 4) (pe 1) (by kernel_rfl) (fun w1 k1 h1 => (by have h := needSettle_any p w1 (hp.keep (k1.keeps (fun _ h => h))); rw [hd1] at h; exact h)) (fun w1 k1 h1 => (by unfold restR; rw [hd1]; exact ⟨rfl, k1.keeps (fun _ h => h)⟩))
  | true =>
    have hF := Sn.fine hd1
    have hln := hF.lastN
    have hl60 := hF.l.2
    have hnN : p.last = (p.n.N : Int) := hln
    have h6 : p.ts.length ≤ 7 := Nat.le_succ_of_le (Sn.ok_t6 (s := p.n) hd1)
    refine run_ret1 32 #[.agg #[.slice p.ba p.bs.length p.bc, iV p.near, iV p.last, .slice p.ta p.ts.length p.tc]] (some 4) (.tuple #[]) (by kernel_rfl) (fun w1 k1 h1 => (by have h := needSettle_any p w1 (hp.keep (k1.keeps (fun _ h => h))); rw [hd1] at h; exact h)) ?_
    refine run_auto [] 3 [] [] [0, 1, 2] [] (st' := ⟨[(0, pA bp), (1, pA b_b), (2, .slice none 0 0)], []⟩) (acc := []) (by kernel_rfl) (by kernel_rfl) trivial ?_
    refine run_v (Instr.loadAt 33 (pA bp) >>= fun v => pure (Next.value v)) (some 5) (.agg #[.slice p.ba p.bs.length p.bc, iV p.near, iV p.last, .slice p.ta p.ts.length p.tc]) (by kernel_rfl) (fun w1 k1 h1 => load_in (base := 0) (off := 0) k1 (fun h => h) [.slice p.ba p.bs.length p.bc, iV p.near, iV p.last, .slice p.ta p.ts.length p.tc] (fun i u hi => by rw [Nat.zero_add]; exact cells_of_heap hbp i u hi) (by kernel_rfl)) ?_
    refine run_v (Instr.loadAt 3 (pA b_b) >>= fun v => pure (Next.value v)) (some 6) (iV b) (by kernel_rfl) (fun w1 k1 h1 => load_in (base := 0) (off := 0) k1 (fun h => h) [iV b] (fun i u hi => by rw [Nat.zero_add]; exact cells_of_heap hb_b i u hi) (by kernel_rfl)) ?_
    cases hd2 : (inI b 0 ((p.bs.length : Int) - 1)) with
    | false =>
      exact run_panics rfl (Nat.le_refl _) 33 #[.agg #[.slice p.ba p.bs.length p.bc, iV p.near, iV p.last, .slice p.ta p.ts.length p.tc], iV b] (some 7) (pe 2) (by kernel_rfl) (fun w1 k1 h1 => (by have h := needBlock_any p b w1 hp.lb; rw [hd2] at h; exact h)) (fun w1 k1 h1 => (by unfold restR; rw [hd1, (show p.n.isB _ = false from hd2)]; exact ⟨rfl, k1.keeps (fun _ h => h)⟩))
    | true =>
      obtain ⟨b0, rfl, hb0⟩ := isB_of (s := p.n) hd2
      refine run_ret1 33 #[.agg #[.slice p.ba p.bs.length p.bc, iV p.near, iV p.last, .slice p.ta p.ts.length p.tc], iV (b0 : Int)] (some 7) (.tuple #[]) (by kernel_rfl) (fun w1 k1 h1 => (by have h := needBlock_any p (b0 : Int) w1 hp.lb; rw [hd2] at h; exact h)) ?_
      refine run_auto [] 2 [] [] [0, 1, 2] [] (st' := ⟨[(0, pA bp), (1, pA b_b), (2, .slice none 0 0)], []⟩) (acc := []) (by kernel_rfl) (by kernel_rfl) trivial ?_
      cases hd3 : ((p.n.rs b0 (p.n.N + 1)).isEmpty) with
      | false =>
        refine draw_cut 3 2 [{ val := fun _ => .agg #[.slice p.ba p.bs.length p.bc, iV p.near, iV p.last, .slice p.ta p.ts.length p.tc], slots := [0] },
                  { names := [1], val := fun l => .agg #[.slice p.ba p.bs.length p.bc, iV p.near, iV p.last, .slice p.ta p.ts.length p.tc, .map (some (l.getD 0 0))], upd := [(1, fun l => memO kvM (vvM p.n) [])], news := [1], slots := [8] },
                  { val := fun _ => iV (b0 : Int), slots := [1] }] [[], [0], [], [0, 1, 2], [0, 1, 2, 3]] (by kernel_rfl) (by kernel_rfl) (by kernel_rfl) (by kernel_rfl) (by kernel_rfl) [2, 9, 10] [1] (by kernel_rfl)
                  ⟨⟨⟨trivial,
                  tri_vVW (fun β => .agg #[.slice p.ba p.bs.length p.bc, iV p.near, iV p.last, .slice p.ta p.ts.length p.tc]) (fun β => by kernel_rfl) (fun β => (Instr.loadAt 33 (pA bp) >>= fun v => pure (Next.value v))) (by kernel_rfl) (fun β extra => by kernel_rfl) (fun β => by kernel_rfl) (fun β w1 k1 h1 => load_in (base := 0) (off := 0) k1 (fun h => h) [.slice p.ba p.bs.length p.bc, iV p.near, iV p.last, .slice p.ta p.ts.length p.tc] (fun i u hi => by rw [Nat.zero_add]; exact cells_of_heap hbp i u hi) (by kernel_rfl))⟩,
                  tri_nwW 1 (fun β b => .agg #[.slice p.ba p.bs.length p.bc, iV p.near, iV p.last, .slice p.ta p.ts.length p.tc, .map (some b)]) (fun β => memO kvM (vvM p.n) []) 35 (fun β => #[.agg #[.slice p.ba p.bs.length p.bc, iV p.near, iV p.last, .slice p.ta p.ts.length p.tc]]) (by kernel_rfl) (fun β extra => by kernel_rfl) (fun β => by kernel_rfl) (fun β b => by kernel_rfl) (fun β b => by kernel_rfl) (fun β b => by kernel_rfl) (fun β w1 k1 h1 => plateOf_any p w1)⟩,
                  tri_vVW (fun β => iV (b0 : Int)) (fun β => by kernel_rfl) (fun β => (Instr.loadAt 3 (pA b_b) >>= fun v => pure (Next.value v))) (by kernel_rfl) (fun β extra => by kernel_rfl) (fun β => by kernel_rfl) (fun β w1 k1 h1 => load_in (base := 0) (off := 0) k1 (fun h => h) [iV (b0 : Int)] (fun i u hi => by rw [Nat.zero_add]; exact cells_of_heap hb_b i u hi) (by kernel_rfl))⟩
                  (fun β => ⟨[(2, .slice none 0 0), (9, .agg #[.slice p.ba p.bs.length p.bc, iV p.near, iV p.last, .slice p.ta p.ts.length p.tc, .map (some (β 1))]), (10, iV (b0 : Int))], [((β 1), memO kvM (vvM p.n) [])]⟩) (fun β => by kernel_rfl) (fun β1 => ?_)
        refine run_dropn 48 #[.agg #[.slice p.ba p.bs.length p.bc, iV p.near, iV p.last, .slice p.ta p.ts.length p.tc, .map (some (β1 1))], iV (b0 : Int)] (some 11) (α := Nat × Nat × List Value) (fun x => .slice (some ⟨(x.1), 0, none⟩) ((p.n.rs b0 (p.n.N + 1)).length) (x.2.1)) (fun x => [((x.1), cO ((p.n.rs b0 (p.n.N + 1)).flatMap spR ++ (x.2.2)) 23)]) 0 (β1 1) (memO kvM (vvM p.n) []) (fun x => (p.n.rs b0 (p.n.N + 1)).length ≤ (x.2.1)) (by kernel_rfl) (by kernel_rfl) (fun x p hp => by simp only [List.mem_cons, List.not_mem_nil, or_false] at hp; rcases hp with rfl <;> rfl) (fun w1 k1 h1 => ((rests_any p (β1 1) b0 p.n.N [] w1 (h1 ((β1 1), memO kvM (vvM p.n) []) (List.mem_of_getElem? (i := 0) (by kernel_rfl))) ((hp.keep (k1.keeps (fun _ h => h))).map (h1 ((β1 1), memO kvM (vvM p.n) []) (List.mem_of_getElem? (i := 0) (by kernel_rfl)))) hF hnN hb0).mono fun _ _ hh => hh.elim (fun hh => absurd hh.1 (by rw [hd3]; simp)) (fun hh => hh.2))) (fun x hI2 hn2 => ?_)
        obtain ⟨rg2, rc2, rsp2⟩ := x
        dsimp only at hI2 hn2
        have hrg2 := hn2 _ (List.mem_of_getElem? (i := 0) rfl)
        refine run_auto [] 2 [] [] [2] [0] (st' := ⟨[(2, sV rg2 ((p.n.rs b0 (p.n.N + 1)).length) rc2)], [(rg2, cO ((p.n.rs b0 (p.n.N + 1)).flatMap spR ++ rsp2) 23)]⟩) (acc := []) (by kernel_rfl) (by kernel_rfl) trivial ?_
        refine run_end (fn := f47) rfl (Nat.le_refl _) (by kernel_rfl) [] [sV rg2 ((p.n.rs b0 (p.n.N + 1)).length) rc2] (e := []) (by kernel_rfl) trivial (fun w1 k1 h1 => ?_)
        unfold restR
        rw [hd1, (show p.n.isB _ = true from hd2)]
        exact .inr ⟨hd3, (rg2, rc2, rsp2), hI2, rfl, k1.keeps (fun _ h => h), fun q hq => by rw [List.mem_singleton] at hq; subst hq; exact ⟨h1 (rg2, _) (List.mem_of_getElem? (i := 0) rfl), hrg2⟩, List.pairwise_singleton _ _⟩
      | true =>
        refine drawW 5 [{ val := fun _ => .agg #[.slice p.ba p.bs.length p.bc, iV p.near, iV p.last, .slice p.ta p.ts.length p.tc], slots := [0] },
                  { names := [1], val := fun l => .agg #[.slice p.ba p.bs.length p.bc, iV p.near, iV p.last, .slice p.ta p.ts.length p.tc, .map (some (l.getD 0 0))], upd := [(1, fun l => memO kvM (vvM p.n) [])], news := [1], slots := [8] },
                  { val := fun _ => iV (b0 : Int), slots := [1] },
                  { val := fun _ => .slice none 0 0, slots := [9, 10], reads := [1], takes := [1] },
                  { val := fun _ => .slice none 0 0, slots := [11] }] [[], [0], [], [0, 1, 2], [0, 1, 2, 3]] (by kernel_rfl) (by kernel_rfl) (by kernel_rfl) (by kernel_rfl) [2] [] (by kernel_rfl)
                  ⟨⟨⟨⟨⟨trivial,
                  tri_vVW (fun β => .agg #[.slice p.ba p.bs.length p.bc, iV p.near, iV p.last, .slice p.ta p.ts.length p.tc]) (fun β => by kernel_rfl) (fun β => (Instr.loadAt 33 (pA bp) >>= fun v => pure (Next.value v))) (by kernel_rfl) (fun β extra => by kernel_rfl) (fun β => by kernel_rfl) (fun β w1 k1 h1 => load_in (base := 0) (off := 0) k1 (fun h => h) [.slice p.ba p.bs.length p.bc, iV p.near, iV p.last, .slice p.ta p.ts.length p.tc] (fun i u hi => by rw [Nat.zero_add]; exact cells_of_heap hbp i u hi) (by kernel_rfl))⟩,
                  tri_nwW 1 (fun β b => .agg #[.slice p.ba p.bs.length p.bc, iV p.near, iV p.last, .slice p.ta p.ts.length p.tc, .map (some b)]) (fun β => memO kvM (vvM p.n) []) 35 (fun β => #[.agg #[.slice p.ba p.bs.length p.bc, iV p.near, iV p.last, .slice p.ta p.ts.length p.tc]]) (by kernel_rfl) (fun β extra => by kernel_rfl) (fun β => by kernel_rfl) (fun β b => by kernel_rfl) (fun β b => by kernel_rfl) (fun β b => by kernel_rfl) (fun β w1 k1 h1 => plateOf_any p w1)⟩,
                  tri_vVW (fun β => iV (b0 : Int)) (fun β => by kernel_rfl) (fun β => (Instr.loadAt 3 (pA b_b) >>= fun v => pure (Next.value v))) (by kernel_rfl) (fun β extra => by kernel_rfl) (fun β => by kernel_rfl) (fun β w1 k1 h1 => load_in (base := 0) (off := 0) k1 (fun h => h) [iV (b0 : Int)] (fun i u hi => by rw [Nat.zero_add]; exact cells_of_heap hb_b i u hi) (by kernel_rfl))⟩,
                  tri_dropW (fun β => (β 1)) (fun β => memO kvM (vvM p.n) []) (fun β => []) (fun β => .slice none 0 0) 48 (fun β => #[.agg #[.slice p.ba p.bs.length p.bc, iV p.near, iV p.last, .slice p.ta p.ts.length p.tc, .map (some (β 1))], iV (b0 : Int)]) (by kernel_rfl) (fun β extra => by kernel_rfl) (fun β => by kernel_rfl) (fun β => by kernel_rfl) (fun β => by kernel_rfl) (fun β w1 k1 h1 => ((rests_any p (β 1) b0 p.n.N [] w1 (h1 ((β 1), memO kvM (vvM p.n) []) (List.mem_of_getElem? (i := 0) (by kernel_rfl))) ((hp.keep (k1.keeps (fun _ h => h))).map (h1 ((β 1), memO kvM (vvM p.n) []) (List.mem_of_getElem? (i := 0) (by kernel_rfl)))) hF hnN hb0).mono fun _ _ hh => hh.elim (fun hh => hh.2) (fun hh => absurd hh.1 (by rw [hd3]; simp))))⟩,
                  tri_quietW (fun β => []) [] [] (fun β => []) (by kernel_rfl) (fun β extra => by kernel_rfl) (by kernel_rfl) (fun β => trivial)⟩
                  (fun β => ⟨[(2, .slice none 0 0)], []⟩) (fun β => by kernel_rfl) (fun β1 => ?_)
        refine run_end (fn := f47) rfl (Nat.le_refl _) (by kernel_rfl) [] [.slice none 0 0] (e := []) (by kernel_rfl) trivial (fun w1 k1 h1 => ?_)
        unfold restR
        rw [hd1, (show p.n.isB _ = true from hd2)]
        exact .inl ⟨hd3, rfl, k1.keeps (fun _ h => h)⟩

set_option maxRecDepth 100000 in
theorem wait11_any (p : Sb) (bm c i : Nat) (L : List Mo) (w : World) (hmap : w.heap[bm]? = some (memO kvM (vvM p.n) L)) (hin : p.InD (fun x => x = bm) w) (hF : p.n.Fine) (hb0 : 0 < p.bs.length) (hi : i ≤ 200) (hc : w.heap[c]? = some (.cells #[.slice p.ba p.bs.length p.bc, .int .i64 p.near, .int .i64 p.last, .slice p.ta p.ts.length p.tc, .map (some bm)] 73 (0, 0))) (hcb : ¬ c = bm) : Calls Try.prog 54 #[.int .i64 (i : Int), .pointer (some ⟨c, 0, none⟩)] w (NwW (α := List Mo) (fun _ => .bool (p.n.set 0 i)) (fun _ => []) bm (fun L => memO kvM (vvM p.n) L) (fun _ => True) w) := by
  refine calls_run (fn := f54) (c := (f54.body).getD .skip) [.int .i64 (i : Int), .pointer (some ⟨c, 0, none⟩)] func54 (by kernel_rfl) (fun x => x = bm) [(bm, memO kvM (vvM p.n) L)] (fun q hq => by rcases List.mem_singleton.1 hq with rfl; exact ⟨hmap, rfl, rfl⟩) (List.pairwise_singleton _ _) 7 (by kernel_rfl) (by simp) ?_
  refine run_auto [] 6 [] [] [0, 1, 3] [0] (st' := ⟨[(0, iV (i : Int)), (1, pA c), (3, .bool false)], [(bm, memO kvM (vvM p.n) L)]⟩) (acc := []) (by kernel_rfl) (by kernel_rfl) trivial ?_
  refine run_v (Instr.loadAt 73 (pA c) >>= fun v => pure (Next.value v)) (some 4) (.agg #[.slice p.ba p.bs.length p.bc, iV p.near, iV p.last, .slice p.ta p.ts.length p.tc, .map (some bm)]) (by kernel_rfl) (fun w1 k1 h1 => load_in (base := 0) (off := 0) k1 hcb [.slice p.ba p.bs.length p.bc, iV p.near, iV p.last, .slice p.ta p.ts.length p.tc, .map (some bm)] (fun i u hi => by rw [Nat.zero_add]; exact cells_of_heap hc i u hi) (by kernel_rfl)) ?_
  refine run_auto [] 1 [] [] [3, 4, 5] [0] (st' := ⟨[(3, .bool false), (4, .agg #[.slice p.ba p.bs.length p.bc, iV p.near, iV p.last, .slice p.ta p.ts.length p.tc, .map (some bm)]), (5, iV (i : Int))], [(bm, memO kvM (vvM p.n) L)]⟩) (acc := []) (by kernel_rfl) (by kernel_rfl) trivial ?_
  refine run_nww 55 #[.agg #[.slice p.ba p.bs.length p.bc, iV p.near, iV p.last, .slice p.ta p.ts.length p.tc, .map (some bm)], iV 0, iV (i : Int)] (some 6) (α := List Mo) (fun x => .bool (p.n.set 0 i)) (fun x => []) 0 bm (memO kvM (vvM p.n) L) (fun x => memO kvM (vvM p.n) (x)) (fun x => True) (by kernel_rfl) (by kernel_rfl) (fun x => rfl) (fun x p hp => by cases hp) (fun w1 k1 h1 => settled_any p bm 0 i L w1 (h1 (bm, memO kvM (vvM p.n) L) (List.mem_of_getElem? (i := 0) (by kernel_rfl))) ((hin.at k1).map (h1 (bm, memO kvM (vvM p.n) L) (List.mem_of_getElem? (i := 0) (by kernel_rfl)))) hF hb0 (by omega)) (fun x hI1 hn1 => ?_)
  obtain ⟨Lm1, he1⟩ : ∃ y, y = x := ⟨x, rfl⟩
  subst he1
  refine run_auto [] 2 [] [] [3] [0] (st' := ⟨[(3, .bool (p.n.set 0 i))], [(bm, memO kvM (vvM p.n) Lm1)]⟩) (acc := []) (by kernel_rfl) (by kernel_rfl) trivial ?_
  refine run_end (fn := f54) rfl (Nat.le_refl _) (by kernel_rfl) [] [.bool (p.n.set 0 i)] (e := []) (by kernel_rfl) trivial (fun w1 k1 h1 => ?_)
  exact ⟨Lm1, trivial, rfl, k1, h1 (bm, _) (List.mem_of_getElem? (i := 0) rfl), (fun q hq => by cases hq), List.Pairwise.nil⟩

set_option maxRecDepth 100000 in
set_option maxHeartbeats 2000000 in
theorem wait1_any (p : Sb) (b xx : Int) (bp b_b b_xx : Nat) (w : World) (hp : p.In w) (hbp : w.heap[bp]? = some (.cells #[.slice p.ba p.bs.length p.bc, .int .i64 p.near, .int .i64 p.last, .slice p.ta p.ts.length p.tc] 33 (0, 0))) (hb_b : w.heap[b_b]? = some (.cells #[.int .i64 b] 3 (0, 0))) (hb_xx : w.heap[b_xx]? = some (.cells #[.int .i64 xx] 3 (0, 0)))  : Calls Try.prog 49 #[.pointer (some ⟨bp, 0, none⟩), .pointer (some ⟨b_b, 0, none⟩), .pointer (some ⟨b_xx, 0, none⟩)] w (W1 (waitR p.n b xx) w) := by
  refine calls_run (fn := f49) (c := (f49.body).getD .skip) [.pointer (some ⟨bp, 0, none⟩), .pointer (some ⟨b_b, 0, none⟩), .pointer (some ⟨b_xx, 0, none⟩)] func49 (by kernel_rfl) (fun _ => False) [] (fun _ h => by cases h) (List.Pairwise.nil) 23 (by kernel_rfl) (by simp) ?_
  refine run_auto [] 6 [] [] [0, 1, 2, 3] [] (st' := ⟨[(0, pA bp), (1, pA b_b), (2, pA b_xx), (3, iV 0)], []⟩) (acc := []) (by kernel_rfl) (by kernel_rfl) trivial ?_
  refine run_v (Instr.loadAt 33 (pA bp) >>= fun v => pure (Next.value v)) (some 5) (.agg #[.slice p.ba p.bs.length p.bc, iV p.near, iV p.last, .slice p.ta p.ts.length p.tc]) (by kernel_rfl) (fun w1 k1 h1 => load_in (base := 0) (off := 0) k1 (fun h => h) [.slice p.ba p.bs.length p.bc, iV p.near, iV p.last, .slice p.ta p.ts.length p.tc] (fun i u hi => by rw [Nat.zero_add]; exact cells_of_heap hbp i u hi) (by kernel_rfl)) ?_
  cases hd1 : p.n.ok with
  | false =>
    exact run_panics rfl (Nat.le_refl _) 32 #[.agg #[.slice p.ba p.bs.length p.bc, iV p.near, iV p.last, .slice p.ta p.ts.length p.tc]] (some 6) (pe 1) (by kernel_rfl) (fun w1 k1 h1 => (by have h := needSettle_any p w1 (hp.keep (k1.keeps (fun _ h => h))); rw [hd1] at h; exact h)) (fun w1 k1 h1 => (by unfold waitR; rw [hd1]; exact ⟨rfl, k1.keeps (fun _ h => h)⟩))
  | true =>
    have hF := Sn.fine hd1
    have hln := hF.lastN
    have hl60 := hF.l.2
    have hnN : p.last = (p.n.N : Int) := hln
    have h6 : p.ts.length ≤ 7 := Nat.le_succ_of_le (Sn.ok_t6 (s := p.n) hd1)
    refine run_ret1 32 #[.agg #[.slice p.ba p.bs.length p.bc, iV p.near, iV p.last, .slice p.ta p.ts.length p.tc]] (some 6) (.tuple #[]) (by kernel_rfl) (fun w1 k1 h1 => (by have h := needSettle_any p w1 (hp.keep (k1.keeps (fun _ h => h))); rw [hd1] at h; exact h)) ?_
    refine run_auto [] 3 [] [] [0, 1, 2, 3] [] (st' := ⟨[(0, pA bp), (1, pA b_b), (2, pA b_xx), (3, iV 0)], []⟩) (acc := []) (by kernel_rfl) (by kernel_rfl) trivial ?_
    refine run_v (Instr.loadAt 33 (pA bp) >>= fun v => pure (Next.value v)) (some 7) (.agg #[.slice p.ba p.bs.length p.bc, iV p.near, iV p.last, .slice p.ta p.ts.length p.tc]) (by kernel_rfl) (fun w1 k1 h1 => load_in (base := 0) (off := 0) k1 (fun h => h) [.slice p.ba p.bs.length p.bc, iV p.near, iV p.last, .slice p.ta p.ts.length p.tc] (fun i u hi => by rw [Nat.zero_add]; exact cells_of_heap hbp i u hi) (by kernel_rfl)) ?_
    refine run_v (Instr.loadAt 3 (pA b_b) >>= fun v => pure (Next.value v)) (some 8) (iV b) (by kernel_rfl) (fun w1 k1 h1 => load_in (base := 0) (off := 0) k1 (fun h => h) [iV b] (fun i u hi => by rw [Nat.zero_add]; exact cells_of_heap hb_b i u hi) (by kernel_rfl)) ?_
    cases hd2 : (inI b 0 ((p.bs.length : Int) - 1)) with
    | false =>
      exact run_panics rfl (Nat.le_refl _) 33 #[.agg #[.slice p.ba p.bs.length p.bc, iV p.near, iV p.last, .slice p.ta p.ts.length p.tc], iV b] (some 9) (pe 2) (by kernel_rfl) (fun w1 k1 h1 => (by have h := needBlock_any p b w1 hp.lb; rw [hd2] at h; exact h)) (fun w1 k1 h1 => (by unfold waitR; rw [hd1, (show p.n.isB _ = false from hd2)]; exact ⟨rfl, k1.keeps (fun _ h => h)⟩))
    | true =>
      obtain ⟨b0, rfl, hb0⟩ := isB_of (s := p.n) hd2
      refine run_ret1 33 #[.agg #[.slice p.ba p.bs.length p.bc, iV p.near, iV p.last, .slice p.ta p.ts.length p.tc], iV (b0 : Int)] (some 9) (.tuple #[]) (by kernel_rfl) (fun w1 k1 h1 => (by have h := needBlock_any p (b0 : Int) w1 hp.lb; rw [hd2] at h; exact h)) ?_
      refine run_auto [] 3 [] [] [0, 1, 2, 3] [] (st' := ⟨[(0, pA bp), (1, pA b_b), (2, pA b_xx), (3, iV 0)], []⟩) (acc := []) (by kernel_rfl) (by kernel_rfl) trivial ?_
      refine run_v (Instr.loadAt 3 (pA b_xx) >>= fun v => pure (Next.value v)) (some 10) (iV xx) (by kernel_rfl) (fun w1 k1 h1 => load_in (base := 0) (off := 0) k1 (fun h => h) [iV xx] (fun i u hi => by rw [Nat.zero_add]; exact cells_of_heap hb_xx i u hi) (by kernel_rfl)) ?_
      cases hd3 : (inI xx (-100) 100) with
      | false =>
        exact run_panics rfl (Nat.le_refl _) 50 #[iV xx] (some 11) (pe 2) (by kernel_rfl) (fun w1 k1 h1 => (by have h := needWarmth_any xx w1; rw [hd3] at h; exact h)) (fun w1 k1 h1 => (by unfold waitR; rw [hd1, (show p.n.isB _ = true from hd2), hd3]; exact ⟨rfl, k1.keeps (fun _ h => h)⟩))
      | true =>
        have hx := of_decide_eq_true (show decide _ = true from hd3)
        refine run_ret1 50 #[iV xx] (some 11) (.tuple #[]) (by kernel_rfl) (fun w1 k1 h1 => (by have h := needWarmth_any xx w1; rw [hd3] at h; exact h)) ?_
        refine run_auto [] 3 [] [] [0, 1, 2, 3] [] (st' := ⟨[(0, pA bp), (1, pA b_b), (2, pA b_xx), (3, iV 0)], []⟩) (acc := []) (by kernel_rfl) (by kernel_rfl) trivial ?_
        refine run_v (Instr.loadAt 33 (pA bp) >>= fun v => pure (Next.value v)) (some 12) (.agg #[.slice p.ba p.bs.length p.bc, iV p.near, iV p.last, .slice p.ta p.ts.length p.tc]) (by kernel_rfl) (fun w1 k1 h1 => load_in (base := 0) (off := 0) k1 (fun h => h) [.slice p.ba p.bs.length p.bc, iV p.near, iV p.last, .slice p.ta p.ts.length p.tc] (fun i u hi => by rw [Nat.zero_add]; exact cells_of_heap hbp i u hi) (by kernel_rfl)) ?_
        refine run_v (Instr.loadAt 3 (pA b_b) >>= fun v => pure (Next.value v)) (some 13) (iV (b0 : Int)) (by kernel_rfl) (fun w1 k1 h1 => load_in (base := 0) (off := 0) k1 (fun h => h) [iV (b0 : Int)] (fun i u hi => by rw [Nat.zero_add]; exact cells_of_heap hb_b i u hi) (by kernel_rfl)) ?_
        refine run_v (Instr.loadAt 3 (pA b_xx) >>= fun v => pure (Next.value v)) (some 14) (iV xx) (by kernel_rfl) (fun w1 k1 h1 => load_in (base := 0) (off := 0) k1 (fun h => h) [iV xx] (fun i u hi => by rw [Nat.zero_add]; exact cells_of_heap hb_xx i u hi) (by kernel_rfl)) ?_
        refine run_nwl 51 #[.agg #[.slice p.ba p.bs.length p.bc, iV p.near, iV p.last, .slice p.ta p.ts.length p.tc], iV (b0 : Int), iV xx] (some 15) (α := Nat × Nat) (fun x => .agg #[.slice (some ⟨(x.1), 0, none⟩) 1 1, iV p.near, iV 0, .slice none 0 0, .map (some (x.2))]) (fun x => [((x.1), aO #[iV xx, iV xx, iV (elB p.bs b0).2.2.1, iV (elB p.bs b0).2.2.2.1, iV (elB p.bs b0).2.2.2.2.1, iV (elB p.bs b0).2.2.2.2.2] 54), ((x.2), memO kvM (vvM (p.n.un b0 xx)) [])]) (fun x => True) (by kernel_rfl) (fun x p hp => by simp only [List.mem_cons, List.not_mem_nil, or_false] at hp; rcases hp with rfl | rfl <;> rfl) (fun w1 k1 h1 => untouched_any p b0 xx w1 (hp.keep (k1.keeps (fun _ h => h))) hb0) (fun x hI1 hn1 => ?_)
        obtain ⟨ug1, um1⟩ := x
        dsimp only at hI1 hn1
        have hug1 := hn1 _ (List.mem_of_getElem? (i := 0) rfl)
        have hum1 := hn1 _ (List.mem_of_getElem? (i := 1) rfl)
        refine run_new (aO #[.slice none 0 0, iV 0, iV 0, .slice none 0 0, .map none] 73) (fun b2 => pA b2) (some 4) (fun _ => by kernel_rfl) (fun b2 hb2 => ?_)
        refine run_auto [] 4 [] [0] [3, 4] [0, 1, 2] (st' := ⟨[(3, iV 0), (4, pA b2)], [(b2, aO #[sV ug1 1 1, iV p.near, iV 0, .slice none 0 0, .map (some um1)] 73), (ug1, aO #[iV xx, iV xx, iV (elB p.bs b0).2.2.1, iV (elB p.bs b0).2.2.2.1, iV (elB p.bs b0).2.2.2.2.1, iV (elB p.bs b0).2.2.2.2.2] 54), (um1, memO kvM (vvM (p.n.un b0 xx)) [])]⟩) (acc := [(pA b2, pA b2)]) (by kernel_rfl) (by kernel_rfl) ⟨rfl, trivial⟩ ?_
        refine run_nw 53 #[iV 100] (some 16) (α := Unit) (fun _u b3 => .func (.func 88) #[] #[pA b3]) (fun _u => aO #[iV 100] 3) (fun _u => True) (by kernel_rfl) (fun _ => rfl) (fun w1 k1 h1 => upTo_any 100 w1) (fun _u b3 hIb3 hb3 => ?_)
        refine run_auto [] 2 [] [] [3, 18] [0, 1, 2, 3] (st' := ⟨[(3, iV 0), (18, .agg #[.func (.func 88) #[] #[pA b3], .func (.func 54) #[] #[pA b2]])], [(b3, aO #[iV 100] 3), (b2, aO #[sV ug1 1 1, iV p.near, iV 0, .slice none 0 0, .map (some um1)] 73), (ug1, aO #[iV xx, iV xx, iV (elB p.bs b0).2.2.1, iV (elB p.bs b0).2.2.2.1, iV (elB p.bs b0).2.2.2.2.1, iV (elB p.bs b0).2.2.2.2.2] 54), (um1, memO kvM (vvM (p.n.un b0 xx)) [])]⟩) (acc := []) (by kernel_rfl) (by kernel_rfl) trivial ?_
        refine run_drop 52 #[.agg #[.func (.func 88) #[] #[pA b3], .func (.func 54) #[] #[pA b2]]] (some 19) (.tuple #[iV (waitV p.n b0 xx).1, .bool (waitV p.n b0 xx).2]) 3 um1 (memO kvM (vvM (p.n.un b0 xx)) []) (by kernel_rfl) (by kernel_rfl) (fun w1 k1 h1 => firstWait_any 100 b3 (fun i => (p.n.un b0 xx).set 0 i) (p.un b0 xx ug1) um1 b2 [] w1 (by omega) (h1 (b3, aO #[iV 100] 3) (List.mem_of_getElem? (i := 0) (by kernel_rfl))) (fun i hi L1 w2 kk hm2 => wait11_any (p.un b0 xx ug1) um1 b2 i L1 w2 hm2 ((un_in ((kk.block _ (Array.getElem?_eq_some_iff.1 (h1 (ug1, aO #[iV xx, iV xx, iV (elB p.bs b0).2.2.1, iV (elB p.bs b0).2.2.2.1, iV (elB p.bs b0).2.2.2.2.1, iV (elB p.bs b0).2.2.2.2.2] 54) (List.mem_of_getElem? (i := 2) (by kernel_rfl)))).1 (ne_map (h1 (ug1, aO #[iV xx, iV xx, iV (elB p.bs b0).2.2.1, iV (elB p.bs b0).2.2.2.1, iV (elB p.bs b0).2.2.2.2.1, iV (elB p.bs b0).2.2.2.2.2] 54) (List.mem_of_getElem? (i := 2) (by kernel_rfl))) (h1 (um1, memO kvM (vvM (p.n.un b0 xx)) []) (List.mem_of_getElem? (i := 3) (by kernel_rfl))) rfl)).trans (h1 (ug1, aO #[iV xx, iV xx, iV (elB p.bs b0).2.2.1, iV (elB p.bs b0).2.2.2.1, iV (elB p.bs b0).2.2.2.2.1, iV (elB p.bs b0).2.2.2.2.2] 54) (List.mem_of_getElem? (i := 2) (by kernel_rfl))))).map hm2) (un_fine hF hb0 hx) (by show 0 < 1; omega) (by omega) ((kk.block _ (Array.getElem?_eq_some_iff.1 (h1 (b2, aO #[sV ug1 1 1, iV p.near, iV 0, .slice none 0 0, .map (some um1)] 73) (List.mem_of_getElem? (i := 1) (by kernel_rfl)))).1 (ne_map (h1 (b2, aO #[sV ug1 1 1, iV p.near, iV 0, .slice none 0 0, .map (some um1)] 73) (List.mem_of_getElem? (i := 1) (by kernel_rfl))) (h1 (um1, memO kvM (vvM (p.n.un b0 xx)) []) (List.mem_of_getElem? (i := 3) (by kernel_rfl))) rfl)).trans (h1 (b2, aO #[sV ug1 1 1, iV p.near, iV 0, .slice none 0 0, .map (some um1)] 73) (List.mem_of_getElem? (i := 1) (by kernel_rfl)))) (ne_map (h1 (b2, aO #[sV ug1 1 1, iV p.near, iV 0, .slice none 0 0, .map (some um1)] 73) (List.mem_of_getElem? (i := 1) (by kernel_rfl))) (h1 (um1, memO kvM (vvM (p.n.un b0 xx)) []) (List.mem_of_getElem? (i := 3) (by kernel_rfl))) rfl)) (h1 (um1, memO kvM (vvM (p.n.un b0 xx)) []) (List.mem_of_getElem? (i := 3) (by kernel_rfl))) (ne_map (h1 (b3, aO #[iV 100] 3) (List.mem_of_getElem? (i := 0) (by kernel_rfl))) (h1 (um1, memO kvM (vvM (p.n.un b0 xx)) []) (List.mem_of_getElem? (i := 3) (by kernel_rfl))) rfl)) ?_
        cases hd4 : (waitV p.n b0 xx).2 with
        | false =>
          refine run_auto [] 2 [] [] [3, 20, 21] [] (st' := ⟨[(3, iV 0), (20, iV (waitV p.n b0 xx).1), (21, .bool false)], []⟩) (acc := []) (by kernel_rfl) (by kernel_rfl) trivial ?_
          exact run_panics rfl (Nat.le_refl _) 44 #[iV (waitV p.n b0 xx).1, .bool false] (some 22) (pe 4) (by kernel_rfl) (fun w1 k1 h1 => (by have h := needFound_any (waitV p.n b0 xx).1 false w1; unfold Fnd at h; exact h)) (fun w1 k1 h1 => (by unfold waitR; rw [hd1, (show p.n.isB _ = true from hd2), hd3]; unfold fmR; (try simp only [Int.toNat_natCast]); rw [show (waitV p.n b0 xx).2 = false from hd4]; exact ⟨rfl, k1.keeps (fun _ h => h)⟩))
        | true =>
          refine run_auto [] 2 [] [] [3, 20, 21] [] (st' := ⟨[(3, iV 0), (20, iV (waitV p.n b0 xx).1), (21, .bool true)], []⟩) (acc := []) (by kernel_rfl) (by kernel_rfl) trivial ?_
          refine run_ret1 44 #[iV (waitV p.n b0 xx).1, .bool true] (some 22) (iV (waitV p.n b0 xx).1) (by kernel_rfl) (fun w1 k1 h1 => (by have h := needFound_any (waitV p.n b0 xx).1 true w1; unfold Fnd at h; exact h)) ?_
          refine run_auto [] 2 [] [] [3] [] (st' := ⟨[(3, iV (waitV p.n b0 xx).1)], []⟩) (acc := []) (by kernel_rfl) (by kernel_rfl) trivial ?_
          refine run_end (fn := f49) rfl (Nat.le_refl _) (by kernel_rfl) [] [iV (waitV p.n b0 xx).1] (e := []) (by kernel_rfl) trivial (fun w1 k1 h1 => ?_)
          unfold waitR
          rw [hd1, (show p.n.isB _ = true from hd2), hd3]
          unfold fmR
          try simp only [Int.toNat_natCast]
          rw [show (waitV p.n b0 xx).2 = true from hd4]
          exact ⟨rfl, k1.keeps (fun _ h => h)⟩

set_option maxRecDepth 100000 in
set_option maxHeartbeats 2000000 in
theorem lat11_any (p : Sb) (b m i : Nat) (xx : Int) (c1 c2 c3 c4 : Nat) (w : World) (hp : p.In w) (hF : p.n.Fine) (hb : b < p.bs.length) (hm : m ≤ 60) (hx : -100 ≤ xx ∧ xx ≤ 100) (h6 : p.ts.length ≤ 7) (hc1 : w.heap[c1]? = some (.cells #[.int .i64 (b : Int)] 3 (0, 0))) (hc2 : w.heap[c2]? = some (.cells #[.int .i64 xx] 3 (0, 0))) (hc3 : w.heap[c3]? = some (.cells #[.slice p.ba p.bs.length p.bc, .int .i64 p.near, .int .i64 p.last, .slice p.ta p.ts.length p.tc] 33 (0, 0))) (hc4 : w.heap[c4]? = some (.cells #[.int .i64 (m : Int)] 3 (0, 0))) : Calls Try.prog 58 #[.int .i64 ((m - i : Nat) : Int), .pointer (some ⟨c1, 0, none⟩), .pointer (some ⟨c2, 0, none⟩), .pointer (some ⟨c3, 0, none⟩), .pointer (some ⟨c4, 0, none⟩)] w (RetB (latF p.n b xx m i) w) := by
  refine calls_run (fn := f58) (c := (f58.body).getD .skip) [.int .i64 ((m - i : Nat) : Int), .pointer (some ⟨c1, 0, none⟩), .pointer (some ⟨c2, 0, none⟩), .pointer (some ⟨c3, 0, none⟩), .pointer (some ⟨c4, 0, none⟩)] func58 (by kernel_rfl) (fun _ => False) [] (fun _ h => by cases h) (List.Pairwise.nil) 20 (by kernel_rfl) (by simp) ?_
  refine run_auto [] 5 [] [] [0, 1, 2, 3, 4, 6] [] (st' := ⟨[(0, iV ((m - i : Nat) : Int)), (1, pA c1), (2, pA c2), (3, pA c3), (4, pA c4), (6, .bool false)], []⟩) (acc := []) (by kernel_rfl) (by kernel_rfl) trivial ?_
  refine drawW 7 [{ val := fun _ => iV (b : Int), slots := [1] },
      { val := fun _ => iV ((m - i : Nat) : Int), slots := [0] },
      { val := fun _ => iV xx, slots := [2] },
      { val := fun _ => .agg #[iV xx, iV xx], slots := [10] },
      { val := fun _ => .agg #[iV (b : Int), iV ((m - i : Nat) : Int), iV xx, iV xx], slots := [8, 9, 11] },
      { names := [5], val := fun l => .pointer (some ⟨(l.getD 0 0), 0, none⟩), upd := [(5, fun l => aO #[iV 0, iV 0, iV 0, iV 0] 61)], news := [5] },
      { upd := [(5, fun l => aO #[iV (b : Int), iV ((m - i : Nat) : Int), iV xx, iV xx] 61)], slots := [7, 12], reads := [5] }] [[], [], [], [2], [0, 1, 2, 3], [], [0, 1, 2, 3, 4, 5]] (by kernel_rfl) (by kernel_rfl) (by kernel_rfl) (by kernel_rfl) [1, 3, 4, 6, 7] [5] (by kernel_rfl)
      ⟨⟨⟨⟨⟨⟨⟨trivial,
      tri_vVW (fun β => iV (b : Int)) (fun β => by kernel_rfl) (fun β => (Instr.loadAt 3 (pA c1) >>= fun v => pure (Next.value v))) (by kernel_rfl) (fun β extra => by kernel_rfl) (fun β => by kernel_rfl) (fun β w1 k1 h1 => load_in (base := 0) (off := 0) k1 (fun h => h) [iV (b : Int)] (fun i u hi => by rw [Nat.zero_add]; exact cells_of_heap hc1 i u hi) (by kernel_rfl))⟩,
      tri_quietW (fun β => []) [] [] (fun β => []) (by kernel_rfl) (fun β extra => by kernel_rfl) (by kernel_rfl) (fun β => trivial)⟩,
      tri_vVW (fun β => iV xx) (fun β => by kernel_rfl) (fun β => (Instr.loadAt 3 (pA c2) >>= fun v => pure (Next.value v))) (by kernel_rfl) (fun β extra => by kernel_rfl) (fun β => by kernel_rfl) (fun β w1 k1 h1 => load_in (base := 0) (off := 0) k1 (fun h => h) [iV xx] (fun i u hi => by rw [Nat.zero_add]; exact cells_of_heap hc2 i u hi) (by kernel_rfl))⟩,
      tri_callVW (fun β => .agg #[iV xx, iV xx]) (fun β => by kernel_rfl) 59 (fun β => #[iV xx]) (by kernel_rfl) (fun β extra => by kernel_rfl) (fun β => by kernel_rfl) (fun β w1 k1 h1 => exactly_any xx w1)⟩,
      tri_quietW (fun β => []) [] [] (fun β => []) (by kernel_rfl) (fun β extra => by kernel_rfl) (by kernel_rfl) (fun β => trivial)⟩,
      tri_newW 5 (fun β => aO #[iV 0, iV 0, iV 0, iV 0] 61) (fun β b => pA b) [0] (by kernel_rfl) (fun β extra b => by kernel_rfl) (by kernel_rfl) (fun β b => by kernel_rfl) (fun β b => by kernel_rfl) (fun β b => by kernel_rfl)⟩,
      tri_quietW (fun β => []) [0] [0] (fun β => [(.pointer (some ⟨(β 5), 0, none⟩), .pointer (some ⟨(β 5), 0, none⟩))]) (by kernel_rfl) (fun β extra => by kernel_rfl) (by kernel_rfl) (fun β => ⟨rfl, trivial⟩)⟩
      (fun β => ⟨[(1, pA c1), (3, pA c3), (4, pA c4), (6, .bool false), (7, .pointer (some ⟨(β 5), 0, none⟩))], [((β 5), aO #[iV (b : Int), iV ((m - i : Nat) : Int), iV xx, iV xx] 61)]⟩) (fun β => by kernel_rfl) (fun β1 => ?_)
  refine run_auto [] 1 [] [] [1, 3, 4, 6, 7] [0] (st' := ⟨[(1, pA c1), (3, pA c3), (4, pA c4), (6, .bool false), (7, .pointer (some ⟨(β1 5), 0, none⟩))], [((β1 5), aO #[iV (b : Int), iV ((m - i : Nat) : Int), iV xx, iV xx] 61)]⟩) (acc := []) (by kernel_rfl) (by kernel_rfl) trivial ?_
  cases hd1 : (latF p.n b xx m i) with
  | false =>
    refine drawW 8 [{ val := fun _ => .agg #[.slice p.ba p.bs.length p.bc, iV p.near, iV p.last, .slice p.ta p.ts.length p.tc], slots := [3] },
          { val := fun _ => .agg #[iV (b : Int), iV ((m - i : Nat) : Int), iV xx, iV xx], slots := [7], reads := [0] },
          { names := [3], val := fun l => .agg #[.slice p.ba p.bs.length p.bc, iV p.near, iV p.last, .slice (some ⟨(l.getD 0 0), 0, none⟩) (p.ts.length + 1) (p.ts.length + 1)], upd := [(3, fun l => cO ((p.ts ++ [(((b : Int), ((m - i : Nat) : Int), xx, xx) : Tc)]).flatMap tcR) 61)], news := [3], slots := [13, 14] },
          { names := [3, 4], val := fun l => .agg #[.slice p.ba p.bs.length p.bc, iV p.near, iV p.last, .slice (some ⟨(l.getD 0 0), 0, none⟩) (p.ts.length + 1) (p.ts.length + 1), .map (some (l.getD 1 0))], upd := [(4, fun l => memO kvM (vvM (p.n.tch ((b : Int), ((m - i : Nat) : Int), xx, xx))) [])], news := [4], slots := [15] },
          { val := fun _ => iV (b : Int), slots := [1] },
          { val := fun _ => iV (m : Int), slots := [4] },
          { val := fun _ => .bool false, slots := [16, 17, 18], reads := [4, 3], takes := [4] },
          { val := fun _ => .bool false, slots := [19] }] [[], [], [0, 1], [0, 1, 2], [], [], [0, 1, 2, 3, 4, 5], [0, 1, 2, 3, 4, 5, 6]] (by kernel_rfl) (by kernel_rfl) (by kernel_rfl) (by kernel_rfl) [6] [] (by kernel_rfl)
          ⟨⟨⟨⟨⟨⟨⟨⟨trivial,
          tri_vVW (fun β => .agg #[.slice p.ba p.bs.length p.bc, iV p.near, iV p.last, .slice p.ta p.ts.length p.tc]) (fun β => by kernel_rfl) (fun β => (Instr.loadAt 33 (pA c3) >>= fun v => pure (Next.value v))) (by kernel_rfl) (fun β extra => by kernel_rfl) (fun β => by kernel_rfl) (fun β w1 k1 h1 => load_in (base := 0) (off := 0) k1 (fun h => h) [.slice p.ba p.bs.length p.bc, iV p.near, iV p.last, .slice p.ta p.ts.length p.tc] (fun i u hi => by rw [Nat.zero_add]; exact cells_of_heap hc3 i u hi) (by kernel_rfl))⟩,
          tri_quietW (fun β => []) [0] [0] (fun β => [(.pointer (some ⟨(β1 5), 0, none⟩), .pointer (some ⟨(β1 5), 0, none⟩))]) (by kernel_rfl) (fun β extra => by kernel_rfl) (by kernel_rfl) (fun β => ⟨rfl, trivial⟩)⟩,
          tri_nwW 3 (fun β b => .agg #[.slice p.ba p.bs.length p.bc, iV p.near, iV p.last, sV b (p.ts.length + 1) (p.ts.length + 1)]) (fun β => cO ((p.ts ++ [(((b : Int), ((m - i : Nat) : Int), xx, xx) : Tc)]).flatMap tcR) 61) 60 (fun β => #[.agg #[.slice p.ba p.bs.length p.bc, iV p.near, iV p.last, .slice p.ta p.ts.length p.tc], .agg #[iV (b : Int), iV ((m - i : Nat) : Int), iV xx, iV xx]]) (by kernel_rfl) (fun β extra => by kernel_rfl) (fun β => by kernel_rfl) (fun β b => by kernel_rfl) (fun β b => by kernel_rfl) (fun β b => by kernel_rfl) (fun β w1 k1 h1 => touched_any p ((b : Int), ((m - i : Nat) : Int), xx, xx) w1 (hp.keep (k1.keeps (fun _ h => h))) (by omega))⟩,
          tri_nwW 4 (fun β b => .agg #[.slice p.ba p.bs.length p.bc, iV p.near, iV p.last, .slice (some ⟨(β 3), 0, none⟩) (p.ts.length + 1) (p.ts.length + 1), .map (some b)]) (fun β => memO kvM (vvM (p.n.tch ((b : Int), ((m - i : Nat) : Int), xx, xx))) []) 35 (fun β => #[.agg #[.slice p.ba p.bs.length p.bc, iV p.near, iV p.last, .slice (some ⟨(β 3), 0, none⟩) (p.ts.length + 1) (p.ts.length + 1)]]) (by kernel_rfl) (fun β extra => by kernel_rfl) (fun β => by kernel_rfl) (fun β b => by kernel_rfl) (fun β b => by kernel_rfl) (fun β b => by kernel_rfl) (fun β w1 k1 h1 => (by have h := plateOf_any (p.tch ((b : Int), ((m - i : Nat) : Int), xx, xx) (β 3)) w1; rw [tch_len] at h; exact h))⟩,
          tri_vVW (fun β => iV (b : Int)) (fun β => by kernel_rfl) (fun β => (Instr.loadAt 3 (pA c1) >>= fun v => pure (Next.value v))) (by kernel_rfl) (fun β extra => by kernel_rfl) (fun β => by kernel_rfl) (fun β w1 k1 h1 => load_in (base := 0) (off := 0) k1 (fun h => h) [iV (b : Int)] (fun i u hi => by rw [Nat.zero_add]; exact cells_of_heap hc1 i u hi) (by kernel_rfl))⟩,
          tri_vVW (fun β => iV (m : Int)) (fun β => by kernel_rfl) (fun β => (Instr.loadAt 3 (pA c4) >>= fun v => pure (Next.value v))) (by kernel_rfl) (fun β extra => by kernel_rfl) (fun β => by kernel_rfl) (fun β w1 k1 h1 => load_in (base := 0) (off := 0) k1 (fun h => h) [iV (m : Int)] (fun i u hi => by rw [Nat.zero_add]; exact cells_of_heap hc4 i u hi) (by kernel_rfl))⟩,
          tri_dropW (fun β => (β 4)) (fun β => memO kvM (vvM (p.n.tch ((b : Int), ((m - i : Nat) : Int), xx, xx))) []) (fun β => [((β 3), cO ((p.ts ++ [(((b : Int), ((m - i : Nat) : Int), xx, xx) : Tc)]).flatMap tcR) 61)]) (fun β => .bool false) 55 (fun β => #[.agg #[.slice p.ba p.bs.length p.bc, iV p.near, iV p.last, .slice (some ⟨(β 3), 0, none⟩) (p.ts.length + 1) (p.ts.length + 1), .map (some (β 4))], iV (b : Int), iV (m : Int)]) (by kernel_rfl) (fun β extra => by kernel_rfl) (fun β => by kernel_rfl) (fun β => by kernel_rfl) (fun β => by kernel_rfl) (fun β w1 k1 h1 => (by have h := (show Calls Try.prog 55 #[.agg #[.slice p.ba p.bs.length p.bc, iV p.near, iV p.last, .slice (some ⟨(β 3), 0, none⟩) (p.ts.length + 1) (p.ts.length + 1), .map (some (β 4))], iV (b : Int), iV (m : Int)] w1 (Drp (β 4) (.bool (latF p.n b xx m i)) w1) from by have h := settled_any (p.tch ((b : Int), ((m - i : Nat) : Int), xx, xx) (β 3)) (β 4) b m [] w1 (h1 ((β 4), memO kvM (vvM (p.n.tch ((b : Int), ((m - i : Nat) : Int), xx, xx))) []) (List.mem_of_getElem? (i := 0) (by kernel_rfl))) ((tch_in (hp.keep (k1.keeps (fun _ h => h))) (by omega) (h1 ((β 3), cO ((p.ts ++ [(((b : Int), ((m - i : Nat) : Int), xx, xx) : Tc)]).flatMap tcR) 61) (List.mem_of_getElem? (i := 1) (by kernel_rfl)))).map (h1 ((β 4), memO kvM (vvM (p.n.tch ((b : Int), ((m - i : Nat) : Int), xx, xx))) []) (List.mem_of_getElem? (i := 0) (by kernel_rfl)))) (tch_fine hF hb (by omega) hx (by exact h6)) hb (by omega); rw [tch_len] at h; exact h.mono fun e w' ⟨L, _, he, hk, _⟩ => ⟨he, hk⟩); rw [hd1] at h; exact h))⟩,
          tri_quietW (fun β => []) [] [] (fun β => []) (by kernel_rfl) (fun β extra => by kernel_rfl) (by kernel_rfl) (fun β => trivial)⟩
          (fun β => ⟨[(6, .bool false)], []⟩) (fun β => by kernel_rfl) (fun β2 => ?_)
    refine run_end (fn := f58) rfl (Nat.le_refl _) (by kernel_rfl) [] [.bool false] (e := []) (by kernel_rfl) trivial (fun w1 k1 h1 => ?_)
    exact ⟨rfl, k1.keeps (fun _ h => h)⟩
  | true =>
    refine drawW 8 [{ val := fun _ => .agg #[.slice p.ba p.bs.length p.bc, iV p.near, iV p.last, .slice p.ta p.ts.length p.tc], slots := [3] },
          { val := fun _ => .agg #[iV (b : Int), iV ((m - i : Nat) : Int), iV xx, iV xx], slots := [7], reads := [0] },
          { names := [3], val := fun l => .agg #[.slice p.ba p.bs.length p.bc, iV p.near, iV p.last, .slice (some ⟨(l.getD 0 0), 0, none⟩) (p.ts.length + 1) (p.ts.length + 1)], upd := [(3, fun l => cO ((p.ts ++ [(((b : Int), ((m - i : Nat) : Int), xx, xx) : Tc)]).flatMap tcR) 61)], news := [3], slots := [13, 14] },
          { names := [3, 4], val := fun l => .agg #[.slice p.ba p.bs.length p.bc, iV p.near, iV p.last, .slice (some ⟨(l.getD 0 0), 0, none⟩) (p.ts.length + 1) (p.ts.length + 1), .map (some (l.getD 1 0))], upd := [(4, fun l => memO kvM (vvM (p.n.tch ((b : Int), ((m - i : Nat) : Int), xx, xx))) [])], news := [4], slots := [15] },
          { val := fun _ => iV (b : Int), slots := [1] },
          { val := fun _ => iV (m : Int), slots := [4] },
          { val := fun _ => .bool true, slots := [16, 17, 18], reads := [4, 3], takes := [4] },
          { val := fun _ => .bool true, slots := [19] }] [[], [], [0, 1], [0, 1, 2], [], [], [0, 1, 2, 3, 4, 5], [0, 1, 2, 3, 4, 5, 6]] (by kernel_rfl) (by kernel_rfl) (by kernel_rfl) (by kernel_rfl) [6] [] (by kernel_rfl)
          ⟨⟨⟨⟨⟨⟨⟨⟨trivial,
          tri_vVW (fun β => .agg #[.slice p.ba p.bs.length p.bc, iV p.near, iV p.last, .slice p.ta p.ts.length p.tc]) (fun β => by kernel_rfl) (fun β => (Instr.loadAt 33 (pA c3) >>= fun v => pure (Next.value v))) (by kernel_rfl) (fun β extra => by kernel_rfl) (fun β => by kernel_rfl) (fun β w1 k1 h1 => load_in (base := 0) (off := 0) k1 (fun h => h) [.slice p.ba p.bs.length p.bc, iV p.near, iV p.last, .slice p.ta p.ts.length p.tc] (fun i u hi => by rw [Nat.zero_add]; exact cells_of_heap hc3 i u hi) (by kernel_rfl))⟩,
          tri_quietW (fun β => []) [0] [0] (fun β => [(.pointer (some ⟨(β1 5), 0, none⟩), .pointer (some ⟨(β1 5), 0, none⟩))]) (by kernel_rfl) (fun β extra => by kernel_rfl) (by kernel_rfl) (fun β => ⟨rfl, trivial⟩)⟩,
          tri_nwW 3 (fun β b => .agg #[.slice p.ba p.bs.length p.bc, iV p.near, iV p.last, sV b (p.ts.length + 1) (p.ts.length + 1)]) (fun β => cO ((p.ts ++ [(((b : Int), ((m - i : Nat) : Int), xx, xx) : Tc)]).flatMap tcR) 61) 60 (fun β => #[.agg #[.slice p.ba p.bs.length p.bc, iV p.near, iV p.last, .slice p.ta p.ts.length p.tc], .agg #[iV (b : Int), iV ((m - i : Nat) : Int), iV xx, iV xx]]) (by kernel_rfl) (fun β extra => by kernel_rfl) (fun β => by kernel_rfl) (fun β b => by kernel_rfl) (fun β b => by kernel_rfl) (fun β b => by kernel_rfl) (fun β w1 k1 h1 => touched_any p ((b : Int), ((m - i : Nat) : Int), xx, xx) w1 (hp.keep (k1.keeps (fun _ h => h))) (by omega))⟩,
          tri_nwW 4 (fun β b => .agg #[.slice p.ba p.bs.length p.bc, iV p.near, iV p.last, .slice (some ⟨(β 3), 0, none⟩) (p.ts.length + 1) (p.ts.length + 1), .map (some b)]) (fun β => memO kvM (vvM (p.n.tch ((b : Int), ((m - i : Nat) : Int), xx, xx))) []) 35 (fun β => #[.agg #[.slice p.ba p.bs.length p.bc, iV p.near, iV p.last, .slice (some ⟨(β 3), 0, none⟩) (p.ts.length + 1) (p.ts.length + 1)]]) (by kernel_rfl) (fun β extra => by kernel_rfl) (fun β => by kernel_rfl) (fun β b => by kernel_rfl) (fun β b => by kernel_rfl) (fun β b => by kernel_rfl) (fun β w1 k1 h1 => (by have h := plateOf_any (p.tch ((b : Int), ((m - i : Nat) : Int), xx, xx) (β 3)) w1; rw [tch_len] at h; exact h))⟩,
          tri_vVW (fun β => iV (b : Int)) (fun β => by kernel_rfl) (fun β => (Instr.loadAt 3 (pA c1) >>= fun v => pure (Next.value v))) (by kernel_rfl) (fun β extra => by kernel_rfl) (fun β => by kernel_rfl) (fun β w1 k1 h1 => load_in (base := 0) (off := 0) k1 (fun h => h) [iV (b : Int)] (fun i u hi => by rw [Nat.zero_add]; exact cells_of_heap hc1 i u hi) (by kernel_rfl))⟩,
          tri_vVW (fun β => iV (m : Int)) (fun β => by kernel_rfl) (fun β => (Instr.loadAt 3 (pA c4) >>= fun v => pure (Next.value v))) (by kernel_rfl) (fun β extra => by kernel_rfl) (fun β => by kernel_rfl) (fun β w1 k1 h1 => load_in (base := 0) (off := 0) k1 (fun h => h) [iV (m : Int)] (fun i u hi => by rw [Nat.zero_add]; exact cells_of_heap hc4 i u hi) (by kernel_rfl))⟩,
          tri_dropW (fun β => (β 4)) (fun β => memO kvM (vvM (p.n.tch ((b : Int), ((m - i : Nat) : Int), xx, xx))) []) (fun β => [((β 3), cO ((p.ts ++ [(((b : Int), ((m - i : Nat) : Int), xx, xx) : Tc)]).flatMap tcR) 61)]) (fun β => .bool true) 55 (fun β => #[.agg #[.slice p.ba p.bs.length p.bc, iV p.near, iV p.last, .slice (some ⟨(β 3), 0, none⟩) (p.ts.length + 1) (p.ts.length + 1), .map (some (β 4))], iV (b : Int), iV (m : Int)]) (by kernel_rfl) (fun β extra => by kernel_rfl) (fun β => by kernel_rfl) (fun β => by kernel_rfl) (fun β => by kernel_rfl) (fun β w1 k1 h1 => (by have h := (show Calls Try.prog 55 #[.agg #[.slice p.ba p.bs.length p.bc, iV p.near, iV p.last, .slice (some ⟨(β 3), 0, none⟩) (p.ts.length + 1) (p.ts.length + 1), .map (some (β 4))], iV (b : Int), iV (m : Int)] w1 (Drp (β 4) (.bool (latF p.n b xx m i)) w1) from by have h := settled_any (p.tch ((b : Int), ((m - i : Nat) : Int), xx, xx) (β 3)) (β 4) b m [] w1 (h1 ((β 4), memO kvM (vvM (p.n.tch ((b : Int), ((m - i : Nat) : Int), xx, xx))) []) (List.mem_of_getElem? (i := 0) (by kernel_rfl))) ((tch_in (hp.keep (k1.keeps (fun _ h => h))) (by omega) (h1 ((β 3), cO ((p.ts ++ [(((b : Int), ((m - i : Nat) : Int), xx, xx) : Tc)]).flatMap tcR) 61) (List.mem_of_getElem? (i := 1) (by kernel_rfl)))).map (h1 ((β 4), memO kvM (vvM (p.n.tch ((b : Int), ((m - i : Nat) : Int), xx, xx))) []) (List.mem_of_getElem? (i := 0) (by kernel_rfl)))) (tch_fine hF hb (by omega) hx (by exact h6)) hb (by omega); rw [tch_len] at h; exact h.mono fun e w' ⟨L, _, he, hk, _⟩ => ⟨he, hk⟩); rw [hd1] at h; exact h))⟩,
          tri_quietW (fun β => []) [] [] (fun β => []) (by kernel_rfl) (fun β extra => by kernel_rfl) (by kernel_rfl) (fun β => trivial)⟩
          (fun β => ⟨[(6, .bool true)], []⟩) (fun β => by kernel_rfl) (fun β2 => ?_)
    refine run_end (fn := f58) rfl (Nat.le_refl _) (by kernel_rfl) [] [.bool true] (e := []) (by kernel_rfl) trivial (fun w1 k1 h1 => ?_)
    exact ⟨rfl, k1.keeps (fun _ h => h)⟩

set_option maxRecDepth 100000 in
set_option maxHeartbeats 2000000 in
theorem lat1_any (p : Sb) (b m xx : Int) (bp b_b b_m b_xx : Nat) (w : World) (hp : p.In w) (hbp : w.heap[bp]? = some (.cells #[.slice p.ba p.bs.length p.bc, .int .i64 p.near, .int .i64 p.last, .slice p.ta p.ts.length p.tc] 33 (0, 0))) (hb_b : w.heap[b_b]? = some (.cells #[.int .i64 b] 3 (0, 0))) (hb_m : w.heap[b_m]? = some (.cells #[.int .i64 m] 3 (0, 0))) (hb_xx : w.heap[b_xx]? = some (.cells #[.int .i64 xx] 3 (0, 0)))  : Calls Try.prog 56 #[.pointer (some ⟨bp, 0, none⟩), .pointer (some ⟨b_b, 0, none⟩), .pointer (some ⟨b_m, 0, none⟩), .pointer (some ⟨b_xx, 0, none⟩)] w (W1 (latR p.n b xx m) w) := by
  refine calls_run (fn := f56) (c := (f56.body).getD .skip) [.pointer (some ⟨bp, 0, none⟩), .pointer (some ⟨b_b, 0, none⟩), .pointer (some ⟨b_m, 0, none⟩), .pointer (some ⟨b_xx, 0, none⟩)] func56 (by kernel_rfl) (fun _ => False) [] (fun _ h => by cases h) (List.Pairwise.nil) 23 (by kernel_rfl) (by simp) ?_
  refine run_auto [] 6 [] [] [0, 1, 2, 3, 4] [] (st' := ⟨[(0, pA bp), (1, pA b_b), (2, pA b_m), (3, pA b_xx), (4, iV 0)], []⟩) (acc := []) (by kernel_rfl) (by kernel_rfl) trivial ?_
  refine run_v (Instr.loadAt 33 (pA bp) >>= fun v => pure (Next.value v)) (some 5) (.agg #[.slice p.ba p.bs.length p.bc, iV p.near, iV p.last, .slice p.ta p.ts.length p.tc]) (by kernel_rfl) (fun w1 k1 h1 => load_in (base := 0) (off := 0) k1 (fun h => h) [.slice p.ba p.bs.length p.bc, iV p.near, iV p.last, .slice p.ta p.ts.length p.tc] (fun i u hi => by rw [Nat.zero_add]; exact cells_of_heap hbp i u hi) (by kernel_rfl)) ?_
  cases hd1 : p.n.ok with
  | false =>
    exact run_panics rfl (Nat.le_refl _) 32 #[.agg #[.slice p.ba p.bs.length p.bc, iV p.near, iV p.last, .slice p.ta p.ts.length p.tc]] (some 6) (pe 1) (by kernel_rfl) (fun w1 k1 h1 => (by have h := needSettle_any p w1 (hp.keep (k1.keeps (fun _ h => h))); rw [hd1] at h; exact h)) (fun w1 k1 h1 => (by unfold latR; rw [hd1]; exact ⟨rfl, k1.keeps (fun _ h => h)⟩))
  | true =>
    have hF := Sn.fine hd1
    have hln := hF.lastN
    have hl60 := hF.l.2
    have hnN : p.last = (p.n.N : Int) := hln
    have h6 : p.ts.length ≤ 7 := Nat.le_succ_of_le (Sn.ok_t6 (s := p.n) hd1)
    refine run_ret1 32 #[.agg #[.slice p.ba p.bs.length p.bc, iV p.near, iV p.last, .slice p.ta p.ts.length p.tc]] (some 6) (.tuple #[]) (by kernel_rfl) (fun w1 k1 h1 => (by have h := needSettle_any p w1 (hp.keep (k1.keeps (fun _ h => h))); rw [hd1] at h; exact h)) ?_
    refine run_auto [] 3 [] [] [0, 1, 2, 3, 4] [] (st' := ⟨[(0, pA bp), (1, pA b_b), (2, pA b_m), (3, pA b_xx), (4, iV 0)], []⟩) (acc := []) (by kernel_rfl) (by kernel_rfl) trivial ?_
    refine run_v (Instr.loadAt 33 (pA bp) >>= fun v => pure (Next.value v)) (some 7) (.agg #[.slice p.ba p.bs.length p.bc, iV p.near, iV p.last, .slice p.ta p.ts.length p.tc]) (by kernel_rfl) (fun w1 k1 h1 => load_in (base := 0) (off := 0) k1 (fun h => h) [.slice p.ba p.bs.length p.bc, iV p.near, iV p.last, .slice p.ta p.ts.length p.tc] (fun i u hi => by rw [Nat.zero_add]; exact cells_of_heap hbp i u hi) (by kernel_rfl)) ?_
    refine run_v (Instr.loadAt 3 (pA b_b) >>= fun v => pure (Next.value v)) (some 8) (iV b) (by kernel_rfl) (fun w1 k1 h1 => load_in (base := 0) (off := 0) k1 (fun h => h) [iV b] (fun i u hi => by rw [Nat.zero_add]; exact cells_of_heap hb_b i u hi) (by kernel_rfl)) ?_
    cases hd2 : (inI b 0 ((p.bs.length : Int) - 1)) with
    | false =>
      exact run_panics rfl (Nat.le_refl _) 33 #[.agg #[.slice p.ba p.bs.length p.bc, iV p.near, iV p.last, .slice p.ta p.ts.length p.tc], iV b] (some 9) (pe 2) (by kernel_rfl) (fun w1 k1 h1 => (by have h := needBlock_any p b w1 hp.lb; rw [hd2] at h; exact h)) (fun w1 k1 h1 => (by unfold latR; rw [hd1, (show p.n.isB _ = false from hd2)]; exact ⟨rfl, k1.keeps (fun _ h => h)⟩))
    | true =>
      obtain ⟨b0, rfl, hb0⟩ := isB_of (s := p.n) hd2
      refine run_ret1 33 #[.agg #[.slice p.ba p.bs.length p.bc, iV p.near, iV p.last, .slice p.ta p.ts.length p.tc], iV (b0 : Int)] (some 9) (.tuple #[]) (by kernel_rfl) (fun w1 k1 h1 => (by have h := needBlock_any p (b0 : Int) w1 hp.lb; rw [hd2] at h; exact h)) ?_
      refine run_auto [] 3 [] [] [0, 1, 2, 3, 4] [] (st' := ⟨[(0, pA bp), (1, pA b_b), (2, pA b_m), (3, pA b_xx), (4, iV 0)], []⟩) (acc := []) (by kernel_rfl) (by kernel_rfl) trivial ?_
      refine run_v (Instr.loadAt 33 (pA bp) >>= fun v => pure (Next.value v)) (some 10) (.agg #[.slice p.ba p.bs.length p.bc, iV p.near, iV p.last, .slice p.ta p.ts.length p.tc]) (by kernel_rfl) (fun w1 k1 h1 => load_in (base := 0) (off := 0) k1 (fun h => h) [.slice p.ba p.bs.length p.bc, iV p.near, iV p.last, .slice p.ta p.ts.length p.tc] (fun i u hi => by rw [Nat.zero_add]; exact cells_of_heap hbp i u hi) (by kernel_rfl)) ?_
      refine run_v (Instr.loadAt 3 (pA b_m) >>= fun v => pure (Next.value v)) (some 11) (iV m) (by kernel_rfl) (fun w1 k1 h1 => load_in (base := 0) (off := 0) k1 (fun h => h) [iV m] (fun i u hi => by rw [Nat.zero_add]; exact cells_of_heap hb_m i u hi) (by kernel_rfl)) ?_
      cases hd3 : (inI m 0 p.last) with
      | false =>
        exact run_panics rfl (Nat.le_refl _) 34 #[.agg #[.slice p.ba p.bs.length p.bc, iV p.near, iV p.last, .slice p.ta p.ts.length p.tc], iV m] (some 12) (pe 2) (by kernel_rfl) (fun w1 k1 h1 => (by have h := needMinute_any p m w1; rw [hd3] at h; exact h)) (fun w1 k1 h1 => (by unfold latR; rw [hd1, (show p.n.isB _ = true from hd2), (show p.n.isM _ = false from hd3)]; exact ⟨rfl, k1.keeps (fun _ h => h)⟩))
      | true =>
        obtain ⟨m0, rfl, hm0⟩ := isM_of hF hd3
        refine run_ret1 34 #[.agg #[.slice p.ba p.bs.length p.bc, iV p.near, iV p.last, .slice p.ta p.ts.length p.tc], iV (m0 : Int)] (some 12) (.tuple #[]) (by kernel_rfl) (fun w1 k1 h1 => (by have h := needMinute_any p (m0 : Int) w1; rw [hd3] at h; exact h)) ?_
        refine run_auto [] 3 [] [] [0, 1, 2, 3, 4] [] (st' := ⟨[(0, pA bp), (1, pA b_b), (2, pA b_m), (3, pA b_xx), (4, iV 0)], []⟩) (acc := []) (by kernel_rfl) (by kernel_rfl) trivial ?_
        refine run_v (Instr.loadAt 3 (pA b_xx) >>= fun v => pure (Next.value v)) (some 13) (iV xx) (by kernel_rfl) (fun w1 k1 h1 => load_in (base := 0) (off := 0) k1 (fun h => h) [iV xx] (fun i u hi => by rw [Nat.zero_add]; exact cells_of_heap hb_xx i u hi) (by kernel_rfl)) ?_
        cases hd4 : (inI xx (-100) 100) with
        | false =>
          exact run_panics rfl (Nat.le_refl _) 50 #[iV xx] (some 14) (pe 2) (by kernel_rfl) (fun w1 k1 h1 => (by have h := needWarmth_any xx w1; rw [hd4] at h; exact h)) (fun w1 k1 h1 => (by unfold latR; rw [hd1, (show p.n.isB _ = true from hd2), (show p.n.isM _ = true from hd3), hd4]; exact ⟨rfl, k1.keeps (fun _ h => h)⟩))
        | true =>
          have hx := of_decide_eq_true (show decide _ = true from hd4)
          refine run_ret1 50 #[iV xx] (some 14) (.tuple #[]) (by kernel_rfl) (fun w1 k1 h1 => (by have h := needWarmth_any xx w1; rw [hd4] at h; exact h)) ?_
          refine run_auto [] 3 [] [] [0, 1, 2, 3, 4] [] (st' := ⟨[(0, pA bp), (1, pA b_b), (2, pA b_m), (3, pA b_xx), (4, iV 0)], []⟩) (acc := []) (by kernel_rfl) (by kernel_rfl) trivial ?_
          refine run_v (Instr.loadAt 3 (pA b_m) >>= fun v => pure (Next.value v)) (some 15) (iV (m0 : Int)) (by kernel_rfl) (fun w1 k1 h1 => load_in (base := 0) (off := 0) k1 (fun h => h) [iV (m0 : Int)] (fun i u hi => by rw [Nat.zero_add]; exact cells_of_heap hb_m i u hi) (by kernel_rfl)) ?_
          refine run_nw 57 #[iV (m0 : Int)] (some 16) (α := Unit) (fun _u b1 => .func (.func 89) #[] #[pA b1]) (fun _u => aO #[iV (m0 : Int)] 3) (fun _u => True) (by kernel_rfl) (fun _ => rfl) (fun w1 k1 h1 => downFrom_any (m0 : Int) w1) (fun _u b1 hIb1 hb1 => ?_)
          refine run_auto [] 2 [] [] [4, 18] [0] (st' := ⟨[(4, iV 0), (18, .agg #[.func (.func 89) #[] #[pA b1], .func (.func 58) #[] #[pA b_b, pA b_xx, pA bp, pA b_m]])], [(b1, aO #[iV (m0 : Int)] 3)]⟩) (acc := []) (by kernel_rfl) (by kernel_rfl) trivial ?_
          refine run_ret1 52 #[.agg #[.func (.func 89) #[] #[pA b1], .func (.func 58) #[] #[pA b_b, pA b_xx, pA bp, pA b_m]]] (some 19) (.tuple #[iV (latV p.n b0 xx m0).1, .bool (latV p.n b0 xx m0).2]) (by kernel_rfl) (fun w1 k1 h1 => firstLatest_any m0 b1 (latF p.n b0 xx m0) b_b b_xx bp b_m w1 (by omega) (h1 (b1, aO #[iV (m0 : Int)] 3) (List.mem_of_getElem? (i := 0) (by kernel_rfl))) (fun i hi w2 kk => lat11_any p b0 m0 i xx b_b b_xx bp b_m w2 ((hp.keep (k1.keeps (fun _ h => h))).keep kk) hF hb0 (by omega) hx h6 ((kk.heap (Array.getElem?_eq_some_iff.1 ((k1.block _ (Array.getElem?_eq_some_iff.1 hb_b).1 (fun h => h)).trans hb_b)).1).trans ((k1.block _ (Array.getElem?_eq_some_iff.1 hb_b).1 (fun h => h)).trans hb_b)) ((kk.heap (Array.getElem?_eq_some_iff.1 ((k1.block _ (Array.getElem?_eq_some_iff.1 hb_xx).1 (fun h => h)).trans hb_xx)).1).trans ((k1.block _ (Array.getElem?_eq_some_iff.1 hb_xx).1 (fun h => h)).trans hb_xx)) ((kk.heap (Array.getElem?_eq_some_iff.1 ((k1.block _ (Array.getElem?_eq_some_iff.1 hbp).1 (fun h => h)).trans hbp)).1).trans ((k1.block _ (Array.getElem?_eq_some_iff.1 hbp).1 (fun h => h)).trans hbp)) ((kk.heap (Array.getElem?_eq_some_iff.1 ((k1.block _ (Array.getElem?_eq_some_iff.1 hb_m).1 (fun h => h)).trans hb_m)).1).trans ((k1.block _ (Array.getElem?_eq_some_iff.1 hb_m).1 (fun h => h)).trans hb_m)))) ?_
          cases hd5 : (latV p.n b0 xx m0).2 with
          | false =>
            refine run_auto [] 2 [] [] [4, 20, 21] [] (st' := ⟨[(4, iV 0), (20, iV (latV p.n b0 xx m0).1), (21, .bool false)], []⟩) (acc := []) (by kernel_rfl) (by kernel_rfl) trivial ?_
            exact run_panics rfl (Nat.le_refl _) 44 #[iV (latV p.n b0 xx m0).1, .bool false] (some 22) (pe 4) (by kernel_rfl) (fun w1 k1 h1 => (by have h := needFound_any (latV p.n b0 xx m0).1 false w1; unfold Fnd at h; exact h)) (fun w1 k1 h1 => (by unfold latR; rw [hd1, (show p.n.isB _ = true from hd2), (show p.n.isM _ = true from hd3), hd4]; unfold fmR; (try simp only [Int.toNat_natCast]); rw [show (latV p.n b0 xx m0).2 = false from hd5]; exact ⟨rfl, k1.keeps (fun _ h => h)⟩))
          | true =>
            refine run_auto [] 2 [] [] [4, 20, 21] [] (st' := ⟨[(4, iV 0), (20, iV (latV p.n b0 xx m0).1), (21, .bool true)], []⟩) (acc := []) (by kernel_rfl) (by kernel_rfl) trivial ?_
            refine run_ret1 44 #[iV (latV p.n b0 xx m0).1, .bool true] (some 22) (iV (latV p.n b0 xx m0).1) (by kernel_rfl) (fun w1 k1 h1 => (by have h := needFound_any (latV p.n b0 xx m0).1 true w1; unfold Fnd at h; exact h)) ?_
            refine run_auto [] 2 [] [] [4] [] (st' := ⟨[(4, iV (latV p.n b0 xx m0).1)], []⟩) (acc := []) (by kernel_rfl) (by kernel_rfl) trivial ?_
            refine run_end (fn := f56) rfl (Nat.le_refl _) (by kernel_rfl) [] [iV (latV p.n b0 xx m0).1] (e := []) (by kernel_rfl) trivial (fun w1 k1 h1 => ?_)
            unfold latR
            rw [hd1, (show p.n.isB _ = true from hd2), (show p.n.isM _ = true from hd3), hd4]
            unfold fmR
            try simp only [Int.toNat_natCast]
            rw [show (latV p.n b0 xx m0).2 = true from hd5]
            exact ⟨rfl, k1.keeps (fun _ h => h)⟩

end Go.Proofs.Ytfjfkaaflghaiaa

namespace Go.Proofs.Ytfjfkaaflghaiaa
open Go.RowKit Go.Proofs.Try
attribute [local irreducible] Run wpK

set_option maxRecDepth 100000 in
theorem Excess_any (p : Sb) (b m : Int) (w : World) (hp : p.In w) : Calls Try.prog 11 #[.agg #[.slice p.ba p.bs.length p.bc, .int .i64 p.near, .int .i64 p.last, .slice p.ta p.ts.length p.tc], .int .i64 b, .int .i64 m] w (Ret (.tuple #[.agg #[.int .i64 (spA (excR p.n b m)).1, .int .i64 (spA (excR p.n b m)).2], .int .i64 (erA (excR p.n b m))]) w) := by
  refine calls_run (fn := f11) (c := (f11.body).getD .skip) [.agg #[.slice p.ba p.bs.length p.bc, .int .i64 p.near, .int .i64 p.last, .slice p.ta p.ts.length p.tc], .int .i64 b, .int .i64 m] func11 (by kernel_rfl) (fun _ => False) [] (fun _ h => by cases h) (List.Pairwise.nil) 12 (by kernel_rfl) (by simp) ?_
  refine run_auto [] 2 [] [] [0, 1, 2] [] (st' := ⟨[(0, .agg #[.slice p.ba p.bs.length p.bc, iV p.near, iV p.last, .slice p.ta p.ts.length p.tc]), (1, iV b), (2, iV m)], []⟩) (acc := []) (by kernel_rfl) (by kernel_rfl) trivial ?_
  refine run_new (aO #[.slice p.ba p.bs.length p.bc, iV p.near, iV p.last, .slice p.ta p.ts.length p.tc] 33) (fun b1 => pA b1) (some 3) (fun _ => by kernel_rfl) (fun b1 hb1 => ?_)
  refine run_new (aO #[iV b] 3) (fun b2 => pA b2) (some 4) (fun _ => by kernel_rfl) (fun b2 hb2 => ?_)
  refine run_new (aO #[iV m] 3) (fun b3 => pA b3) (some 5) (fun _ => by kernel_rfl) (fun b3 hb3 => ?_)
  refine run_new (aO #[iV 0, iV 0] 23) (fun b4 => pA b4) (some 6) (fun _ => by kernel_rfl) (fun b4 hb4 => ?_)
  refine run_auto [] 5 [] [] [6, 7, 8] [0, 1, 2, 3] (st' := ⟨[(6, pA b4), (7, iV 0), (8, .func (.func 31) #[] #[pA b1, pA b2, pA b3])], [(b4, aO #[iV 0, iV 0] 23), (b3, aO #[iV m] 3), (b2, aO #[iV b] 3), (b1, aO #[.slice p.ba p.bs.length p.bc, iV p.near, iV p.last, .slice p.ta p.ts.length p.tc] 33)]⟩) (acc := []) (by kernel_rfl) (by kernel_rfl) trivial ?_
  refine run_ret1 30 #[.func (.func 31) #[] #[pA b1, pA b2, pA b3]] (some 9) (.tuple #[.agg #[iV ((spA (excR p.n b m)).1), iV ((spA (excR p.n b m)).2)], iV (erA (excR p.n b m))]) (by kernel_rfl) (fun w1 k1 h1 => ans_span 31 #[pA b1, pA b2, pA b3] w1 (excR p.n b m) (fun _ => by kernel_rfl) (fun w2 kk => exc1_any p b m b1 b2 b3 w2 ((hp.keep (k1.keeps (fun _ h => h))).keep kk) ((kk.heap (Array.getElem?_eq_some_iff.1 (h1 (b1, aO #[.slice p.ba p.bs.length p.bc, iV p.near, iV p.last, .slice p.ta p.ts.length p.tc] 33) (List.mem_of_getElem? (i := 3) (by kernel_rfl)))).1).trans (h1 (b1, aO #[.slice p.ba p.bs.length p.bc, iV p.near, iV p.last, .slice p.ta p.ts.length p.tc] 33) (List.mem_of_getElem? (i := 3) (by kernel_rfl)))) ((kk.heap (Array.getElem?_eq_some_iff.1 (h1 (b2, aO #[iV b] 3) (List.mem_of_getElem? (i := 2) (by kernel_rfl)))).1).trans (h1 (b2, aO #[iV b] 3) (List.mem_of_getElem? (i := 2) (by kernel_rfl)))) ((kk.heap (Array.getElem?_eq_some_iff.1 (h1 (b3, aO #[iV m] 3) (List.mem_of_getElem? (i := 1) (by kernel_rfl)))).1).trans (h1 (b3, aO #[iV m] 3) (List.mem_of_getElem? (i := 1) (by kernel_rfl)))))) ?_
  refine run_auto [] 5 [] [0] [6, 7] [0] (st' := ⟨[(6, pA b4), (7, iV (erA (excR p.n b m)))], [(b4, aO #[iV ((spA (excR p.n b m)).1), iV ((spA (excR p.n b m)).2)] 23)]⟩) (acc := [(pA b4, pA b4)]) (by kernel_rfl) (by kernel_rfl) ⟨rfl, trivial⟩ ?_
  refine run_end (fn := f11) rfl (Nat.le_refl _) (by kernel_rfl) [0] [.agg #[iV ((spA (excR p.n b m)).1), iV ((spA (excR p.n b m)).2)], iV (erA (excR p.n b m))] (e := [(pA b4, pA b4)]) (by kernel_rfl) ⟨rfl, trivial⟩ (fun w1 k1 h1 => ?_)
  exact ⟨rfl, k1.keeps (fun _ h => h)⟩

set_option maxRecDepth 100000 in
theorem Longer_any (p : Sb) (b m : Int) (w : World) (hp : p.In w) : Calls Try.prog 13 #[.agg #[.slice p.ba p.bs.length p.bc, .int .i64 p.near, .int .i64 p.last, .slice p.ta p.ts.length p.tc], .int .i64 b, .int .i64 m] w (Ret (.tuple #[.agg #[.int .i64 (spA (lonR p.n b m)).1, .int .i64 (spA (lonR p.n b m)).2], .int .i64 (erA (lonR p.n b m))]) w) := by
  refine calls_run (fn := f13) (c := (f13.body).getD .skip) [.agg #[.slice p.ba p.bs.length p.bc, .int .i64 p.near, .int .i64 p.last, .slice p.ta p.ts.length p.tc], .int .i64 b, .int .i64 m] func13 (by kernel_rfl) (fun _ => False) [] (fun _ h => by cases h) (List.Pairwise.nil) 12 (by kernel_rfl) (by simp) ?_
  refine run_auto [] 2 [] [] [0, 1, 2] [] (st' := ⟨[(0, .agg #[.slice p.ba p.bs.length p.bc, iV p.near, iV p.last, .slice p.ta p.ts.length p.tc]), (1, iV b), (2, iV m)], []⟩) (acc := []) (by kernel_rfl) (by kernel_rfl) trivial ?_
  refine run_new (aO #[.slice p.ba p.bs.length p.bc, iV p.near, iV p.last, .slice p.ta p.ts.length p.tc] 33) (fun b1 => pA b1) (some 3) (fun _ => by kernel_rfl) (fun b1 hb1 => ?_)
  refine run_new (aO #[iV b] 3) (fun b2 => pA b2) (some 4) (fun _ => by kernel_rfl) (fun b2 hb2 => ?_)
  refine run_new (aO #[iV m] 3) (fun b3 => pA b3) (some 5) (fun _ => by kernel_rfl) (fun b3 hb3 => ?_)
  refine run_new (aO #[iV 0, iV 0] 23) (fun b4 => pA b4) (some 6) (fun _ => by kernel_rfl) (fun b4 hb4 => ?_)
  refine run_auto [] 5 [] [] [6, 7, 8] [0, 1, 2, 3] (st' := ⟨[(6, pA b4), (7, iV 0), (8, .func (.func 38) #[] #[pA b1, pA b2, pA b3])], [(b4, aO #[iV 0, iV 0] 23), (b3, aO #[iV m] 3), (b2, aO #[iV b] 3), (b1, aO #[.slice p.ba p.bs.length p.bc, iV p.near, iV p.last, .slice p.ta p.ts.length p.tc] 33)]⟩) (acc := []) (by kernel_rfl) (by kernel_rfl) trivial ?_
  refine run_ret1 30 #[.func (.func 38) #[] #[pA b1, pA b2, pA b3]] (some 9) (.tuple #[.agg #[iV ((spA (lonR p.n b m)).1), iV ((spA (lonR p.n b m)).2)], iV (erA (lonR p.n b m))]) (by kernel_rfl) (fun w1 k1 h1 => ans_span 38 #[pA b1, pA b2, pA b3] w1 (lonR p.n b m) (fun _ => by kernel_rfl) (fun w2 kk => lon1_any p b m b1 b2 b3 w2 ((hp.keep (k1.keeps (fun _ h => h))).keep kk) ((kk.heap (Array.getElem?_eq_some_iff.1 (h1 (b1, aO #[.slice p.ba p.bs.length p.bc, iV p.near, iV p.last, .slice p.ta p.ts.length p.tc] 33) (List.mem_of_getElem? (i := 3) (by kernel_rfl)))).1).trans (h1 (b1, aO #[.slice p.ba p.bs.length p.bc, iV p.near, iV p.last, .slice p.ta p.ts.length p.tc] 33) (List.mem_of_getElem? (i := 3) (by kernel_rfl)))) ((kk.heap (Array.getElem?_eq_some_iff.1 (h1 (b2, aO #[iV b] 3) (List.mem_of_getElem? (i := 2) (by kernel_rfl)))).1).trans (h1 (b2, aO #[iV b] 3) (List.mem_of_getElem? (i := 2) (by kernel_rfl)))) ((kk.heap (Array.getElem?_eq_some_iff.1 (h1 (b3, aO #[iV m] 3) (List.mem_of_getElem? (i := 1) (by kernel_rfl)))).1).trans (h1 (b3, aO #[iV m] 3) (List.mem_of_getElem? (i := 1) (by kernel_rfl)))))) ?_
  refine run_auto [] 5 [] [0] [6, 7] [0] (st' := ⟨[(6, pA b4), (7, iV (erA (lonR p.n b m)))], [(b4, aO #[iV ((spA (lonR p.n b m)).1), iV ((spA (lonR p.n b m)).2)] 23)]⟩) (acc := [(pA b4, pA b4)]) (by kernel_rfl) (by kernel_rfl) ⟨rfl, trivial⟩ ?_
  refine run_end (fn := f13) rfl (Nat.le_refl _) (by kernel_rfl) [0] [.agg #[iV ((spA (lonR p.n b m)).1), iV ((spA (lonR p.n b m)).2)], iV (erA (lonR p.n b m))] (e := [(pA b4, pA b4)]) (by kernel_rfl) ⟨rfl, trivial⟩ (fun w1 k1 h1 => ?_)
  exact ⟨rfl, k1.keeps (fun _ h => h)⟩

set_option maxRecDepth 100000 in
theorem Settled_any (p : Sb) (b m : Int) (w : World) (hp : p.In w) : Calls Try.prog 14 #[.agg #[.slice p.ba p.bs.length p.bc, .int .i64 p.near, .int .i64 p.last, .slice p.ta p.ts.length p.tc], .int .i64 b, .int .i64 m] w (Ret (.tuple #[.int .i64 (inA (setR p.n b m)), .int .i64 (erA (setR p.n b m))]) w) := by
  refine calls_run (fn := f14) (c := (f14.body).getD .skip) [.agg #[.slice p.ba p.bs.length p.bc, .int .i64 p.near, .int .i64 p.last, .slice p.ta p.ts.length p.tc], .int .i64 b, .int .i64 m] func14 (by kernel_rfl) (fun _ => False) [] (fun _ h => by cases h) (List.Pairwise.nil) 12 (by kernel_rfl) (by simp) ?_
  refine run_auto [] 2 [] [] [0, 1, 2] [] (st' := ⟨[(0, .agg #[.slice p.ba p.bs.length p.bc, iV p.near, iV p.last, .slice p.ta p.ts.length p.tc]), (1, iV b), (2, iV m)], []⟩) (acc := []) (by kernel_rfl) (by kernel_rfl) trivial ?_
  refine run_new (aO #[.slice p.ba p.bs.length p.bc, iV p.near, iV p.last, .slice p.ta p.ts.length p.tc] 33) (fun b1 => pA b1) (some 3) (fun _ => by kernel_rfl) (fun b1 hb1 => ?_)
  refine run_new (aO #[iV b] 3) (fun b2 => pA b2) (some 4) (fun _ => by kernel_rfl) (fun b2 hb2 => ?_)
  refine run_new (aO #[iV m] 3) (fun b3 => pA b3) (some 5) (fun _ => by kernel_rfl) (fun b3 hb3 => ?_)
  refine run_auto [] 6 [] [] [6, 7, 8] [0, 1, 2] (st' := ⟨[(6, iV 0), (7, iV 0), (8, .func (.func 41) #[] #[pA b1, pA b2, pA b3])], [(b3, aO #[iV m] 3), (b2, aO #[iV b] 3), (b1, aO #[.slice p.ba p.bs.length p.bc, iV p.near, iV p.last, .slice p.ta p.ts.length p.tc] 33)]⟩) (acc := []) (by kernel_rfl) (by kernel_rfl) trivial ?_
  refine run_ret1 40 #[.func (.func 41) #[] #[pA b1, pA b2, pA b3]] (some 9) (.tuple #[iV (inA (setR p.n b m)), iV (erA (setR p.n b m))]) (by kernel_rfl) (fun w1 k1 h1 => ans_int 41 #[pA b1, pA b2, pA b3] w1 (setR p.n b m) (fun _ => by kernel_rfl) (fun w2 kk => set1_any p b m b1 b2 b3 w2 ((hp.keep (k1.keeps (fun _ h => h))).keep kk) ((kk.heap (Array.getElem?_eq_some_iff.1 (h1 (b1, aO #[.slice p.ba p.bs.length p.bc, iV p.near, iV p.last, .slice p.ta p.ts.length p.tc] 33) (List.mem_of_getElem? (i := 2) (by kernel_rfl)))).1).trans (h1 (b1, aO #[.slice p.ba p.bs.length p.bc, iV p.near, iV p.last, .slice p.ta p.ts.length p.tc] 33) (List.mem_of_getElem? (i := 2) (by kernel_rfl)))) ((kk.heap (Array.getElem?_eq_some_iff.1 (h1 (b2, aO #[iV b] 3) (List.mem_of_getElem? (i := 1) (by kernel_rfl)))).1).trans (h1 (b2, aO #[iV b] 3) (List.mem_of_getElem? (i := 1) (by kernel_rfl)))) ((kk.heap (Array.getElem?_eq_some_iff.1 (h1 (b3, aO #[iV m] 3) (List.mem_of_getElem? (i := 0) (by kernel_rfl)))).1).trans (h1 (b3, aO #[iV m] 3) (List.mem_of_getElem? (i := 0) (by kernel_rfl)))))) ?_
  refine run_auto [] 5 [] [] [6, 7] [] (st' := ⟨[(6, iV (inA (setR p.n b m))), (7, iV (erA (setR p.n b m)))], []⟩) (acc := []) (by kernel_rfl) (by kernel_rfl) trivial ?_
  refine run_end (fn := f14) rfl (Nat.le_refl _) (by kernel_rfl) [] [iV (inA (setR p.n b m)), iV (erA (setR p.n b m))] (e := []) (by kernel_rfl) trivial (fun w1 k1 h1 => ?_)
  exact ⟨rfl, k1.keeps (fun _ h => h)⟩

set_option maxRecDepth 100000 in
theorem When_any (p : Sb) (b : Int) (w : World) (hp : p.In w) : Calls Try.prog 15 #[.agg #[.slice p.ba p.bs.length p.bc, .int .i64 p.near, .int .i64 p.last, .slice p.ta p.ts.length p.tc], .int .i64 b] w (Ret (.tuple #[.int .i64 (inA (whenR p.n b)), .int .i64 (erA (whenR p.n b))]) w) := by
  refine calls_run (fn := f15) (c := (f15.body).getD .skip) [.agg #[.slice p.ba p.bs.length p.bc, .int .i64 p.near, .int .i64 p.last, .slice p.ta p.ts.length p.tc], .int .i64 b] func15 (by kernel_rfl) (fun _ => False) [] (fun _ h => by cases h) (List.Pairwise.nil) 10 (by kernel_rfl) (by simp) ?_
  refine run_auto [] 2 [] [] [0, 1] [] (st' := ⟨[(0, .agg #[.slice p.ba p.bs.length p.bc, iV p.near, iV p.last, .slice p.ta p.ts.length p.tc]), (1, iV b)], []⟩) (acc := []) (by kernel_rfl) (by kernel_rfl) trivial ?_
  refine run_new (aO #[.slice p.ba p.bs.length p.bc, iV p.near, iV p.last, .slice p.ta p.ts.length p.tc] 33) (fun b1 => pA b1) (some 2) (fun _ => by kernel_rfl) (fun b1 hb1 => ?_)
  refine run_new (aO #[iV b] 3) (fun b2 => pA b2) (some 3) (fun _ => by kernel_rfl) (fun b2 hb2 => ?_)
  refine run_auto [] 6 [] [] [4, 5, 6] [0, 1] (st' := ⟨[(4, iV 0), (5, iV 0), (6, .func (.func 43) #[] #[pA b1, pA b2])], [(b2, aO #[iV b] 3), (b1, aO #[.slice p.ba p.bs.length p.bc, iV p.near, iV p.last, .slice p.ta p.ts.length p.tc] 33)]⟩) (acc := []) (by kernel_rfl) (by kernel_rfl) trivial ?_
  refine run_ret1 40 #[.func (.func 43) #[] #[pA b1, pA b2]] (some 7) (.tuple #[iV (inA (whenR p.n b)), iV (erA (whenR p.n b))]) (by kernel_rfl) (fun w1 k1 h1 => ans_int 43 #[pA b1, pA b2] w1 (whenR p.n b) (fun _ => by kernel_rfl) (fun w2 kk => when1_any p b b1 b2 w2 ((hp.keep (k1.keeps (fun _ h => h))).keep kk) ((kk.heap (Array.getElem?_eq_some_iff.1 (h1 (b1, aO #[.slice p.ba p.bs.length p.bc, iV p.near, iV p.last, .slice p.ta p.ts.length p.tc] 33) (List.mem_of_getElem? (i := 1) (by kernel_rfl)))).1).trans (h1 (b1, aO #[.slice p.ba p.bs.length p.bc, iV p.near, iV p.last, .slice p.ta p.ts.length p.tc] 33) (List.mem_of_getElem? (i := 1) (by kernel_rfl)))) ((kk.heap (Array.getElem?_eq_some_iff.1 (h1 (b2, aO #[iV b] 3) (List.mem_of_getElem? (i := 0) (by kernel_rfl)))).1).trans (h1 (b2, aO #[iV b] 3) (List.mem_of_getElem? (i := 0) (by kernel_rfl)))))) ?_
  refine run_auto [] 5 [] [] [4, 5] [] (st' := ⟨[(4, iV (inA (whenR p.n b))), (5, iV (erA (whenR p.n b)))], []⟩) (acc := []) (by kernel_rfl) (by kernel_rfl) trivial ?_
  refine run_end (fn := f15) rfl (Nat.le_refl _) (by kernel_rfl) [] [iV (inA (whenR p.n b)), iV (erA (whenR p.n b))] (e := []) (by kernel_rfl) trivial (fun w1 k1 h1 => ?_)
  exact ⟨rfl, k1.keeps (fun _ h => h)⟩

set_option maxRecDepth 100000 in
theorem All_any (p : Sb) (w : World) (hp : p.In w) : Calls Try.prog 24 #[.agg #[.slice p.ba p.bs.length p.bc, .int .i64 p.near, .int .i64 p.last, .slice p.ta p.ts.length p.tc]] w (Ret (.tuple #[.int .i64 (inA (allR p.n)), .int .i64 (erA (allR p.n))]) w) := by
  refine calls_run (fn := f24) (c := (f24.body).getD .skip) [.agg #[.slice p.ba p.bs.length p.bc, .int .i64 p.near, .int .i64 p.last, .slice p.ta p.ts.length p.tc]] func24 (by kernel_rfl) (fun _ => False) [] (fun _ h => by cases h) (List.Pairwise.nil) 8 (by kernel_rfl) (by simp) ?_
  refine run_auto [] 2 [] [] [0] [] (st' := ⟨[(0, .agg #[.slice p.ba p.bs.length p.bc, iV p.near, iV p.last, .slice p.ta p.ts.length p.tc])], []⟩) (acc := []) (by kernel_rfl) (by kernel_rfl) trivial ?_
  refine run_new (aO #[.slice p.ba p.bs.length p.bc, iV p.near, iV p.last, .slice p.ta p.ts.length p.tc] 33) (fun b1 => pA b1) (some 1) (fun _ => by kernel_rfl) (fun b1 hb1 => ?_)
  refine run_auto [] 6 [] [] [2, 3, 4] [0] (st' := ⟨[(2, iV 0), (3, iV 0), (4, .func (.func 67) #[] #[pA b1])], [(b1, aO #[.slice p.ba p.bs.length p.bc, iV p.near, iV p.last, .slice p.ta p.ts.length p.tc] 33)]⟩) (acc := []) (by kernel_rfl) (by kernel_rfl) trivial ?_
  refine run_ret1 40 #[.func (.func 67) #[] #[pA b1]] (some 5) (.tuple #[iV (inA (allR p.n)), iV (erA (allR p.n))]) (by kernel_rfl) (fun w1 k1 h1 => ans_int 67 #[pA b1] w1 (allR p.n) (fun _ => by kernel_rfl) (fun w2 kk => all1_any p  b1 w2 ((hp.keep (k1.keeps (fun _ h => h))).keep kk) ((kk.heap (Array.getElem?_eq_some_iff.1 (h1 (b1, aO #[.slice p.ba p.bs.length p.bc, iV p.near, iV p.last, .slice p.ta p.ts.length p.tc] 33) (List.mem_of_getElem? (i := 0) (by kernel_rfl)))).1).trans (h1 (b1, aO #[.slice p.ba p.bs.length p.bc, iV p.near, iV p.last, .slice p.ta p.ts.length p.tc] 33) (List.mem_of_getElem? (i := 0) (by kernel_rfl)))))) ?_
  refine run_auto [] 5 [] [] [2, 3] [] (st' := ⟨[(2, iV (inA (allR p.n))), (3, iV (erA (allR p.n)))], []⟩) (acc := []) (by kernel_rfl) (by kernel_rfl) trivial ?_
  refine run_end (fn := f24) rfl (Nat.le_refl _) (by kernel_rfl) [] [iV (inA (allR p.n)), iV (erA (allR p.n))] (e := []) (by kernel_rfl) trivial (fun w1 k1 h1 => ?_)
  exact ⟨rfl, k1.keeps (fun _ h => h)⟩

set_option maxRecDepth 100000 in
theorem Rests_any (p : Sb) (b : Int) (w : World) (hp : p.In w) : Calls Try.prog 16 #[.agg #[.slice p.ba p.bs.length p.bc, .int .i64 p.near, .int .i64 p.last, .slice p.ta p.ts.length p.tc], .int .i64 b] w (SlR (restR p.n b) w) := by
  refine calls_run (fn := f16) (c := (f16.body).getD .skip) [.agg #[.slice p.ba p.bs.length p.bc, .int .i64 p.near, .int .i64 p.last, .slice p.ta p.ts.length p.tc], .int .i64 b] func16 (by kernel_rfl) (fun _ => False) [] (fun _ h => by cases h) (List.Pairwise.nil) 10 (by kernel_rfl) (by simp) ?_
  refine run_auto [] 2 [] [] [0, 1] [] (st' := ⟨[(0, .agg #[.slice p.ba p.bs.length p.bc, iV p.near, iV p.last, .slice p.ta p.ts.length p.tc]), (1, iV b)], []⟩) (acc := []) (by kernel_rfl) (by kernel_rfl) trivial ?_
  refine run_new (aO #[.slice p.ba p.bs.length p.bc, iV p.near, iV p.last, .slice p.ta p.ts.length p.tc] 33) (fun b1 => pA b1) (some 2) (fun _ => by kernel_rfl) (fun b1 hb1 => ?_)
  refine run_new (aO #[iV b] 3) (fun b2 => pA b2) (some 3) (fun _ => by kernel_rfl) (fun b2 hb2 => ?_)
  refine run_auto [] 6 [] [] [4, 5, 6] [0, 1] (st' := ⟨[(4, .slice none 0 0), (5, iV 0), (6, .func (.func 47) #[] #[pA b1, pA b2])], [(b2, aO #[iV b] 3), (b1, aO #[.slice p.ba p.bs.length p.bc, iV p.near, iV p.last, .slice p.ta p.ts.length p.tc] 33)]⟩) (acc := []) (by kernel_rfl) (by kernel_rfl) trivial ?_
  cases hd1 : ((liA (restR p.n b)).isEmpty) with
  | false =>
    refine run_nwl 46 #[.func (.func 47) #[] #[pA b1, pA b2]] (some 7) (α := Nat × Nat × List Value) (fun x => .tuple #[.slice (some ⟨(x.1), 0, none⟩) ((liA (restR p.n b)).length) (x.2.1), iV (erA (restR p.n b))]) (fun x => [((x.1), cO ((liA (restR p.n b)).flatMap spR ++ (x.2.2)) 23)]) (fun x => (liA (restR p.n b)).length ≤ (x.2.1)) (by kernel_rfl) (fun x p hp => by simp only [List.mem_cons, List.not_mem_nil, or_false] at hp; rcases hp with rfl <;> rfl) (fun w1 k1 h1 => ((ans_sl 47 #[pA b1, pA b2] w1 (restR p.n b) (fun _ => by kernel_rfl) (fun w2 kk => rest1_any p b b1 b2 w2 ((hp.keep (k1.keeps (fun _ h => h))).keep kk) ((kk.heap (Array.getElem?_eq_some_iff.1 (h1 (b1, aO #[.slice p.ba p.bs.length p.bc, iV p.near, iV p.last, .slice p.ta p.ts.length p.tc] 33) (List.mem_of_getElem? (i := 1) (by kernel_rfl)))).1).trans (h1 (b1, aO #[.slice p.ba p.bs.length p.bc, iV p.near, iV p.last, .slice p.ta p.ts.length p.tc] 33) (List.mem_of_getElem? (i := 1) (by kernel_rfl)))) ((kk.heap (Array.getElem?_eq_some_iff.1 (h1 (b2, aO #[iV b] 3) (List.mem_of_getElem? (i := 0) (by kernel_rfl)))).1).trans (h1 (b2, aO #[iV b] 3) (List.mem_of_getElem? (i := 0) (by kernel_rfl)))))).mono fun _ _ hh => hh.elim (fun hh => absurd hh.1 (by rw [hd1]; simp)) (fun hh => hh.2))) (fun x hI3 hn3 => ?_)
    obtain ⟨rg3, rc3, rsp3⟩ := x
    dsimp only at hI3 hn3
    have hrg3 := hn3 _ (List.mem_of_getElem? (i := 0) rfl)
    refine run_auto [] 5 [] [] [4, 5] [0] (st' := ⟨[(4, sV rg3 ((liA (restR p.n b)).length) rc3), (5, iV (erA (restR p.n b)))], [(rg3, cO ((liA (restR p.n b)).flatMap spR ++ rsp3) 23)]⟩) (acc := []) (by kernel_rfl) (by kernel_rfl) trivial ?_
    refine run_end (fn := f16) rfl (Nat.le_refl _) (by kernel_rfl) [] [sV rg3 ((liA (restR p.n b)).length) rc3, iV (erA (restR p.n b))] (e := []) (by kernel_rfl) trivial (fun w1 k1 h1 => ?_)
    exact .inr ⟨hd1, (rg3, rc3, rsp3), hI3, rfl, k1.keeps (fun _ h => h), fun q hq => by rw [List.mem_singleton] at hq; subst hq; exact ⟨h1 (rg3, _) (List.mem_of_getElem? (i := 0) rfl), hrg3⟩, List.pairwise_singleton _ _⟩
  | true =>
    refine run_ret1 46 #[.func (.func 47) #[] #[pA b1, pA b2]] (some 7) (.tuple #[.slice none 0 0, iV (erA (restR p.n b))]) (by kernel_rfl) (fun w1 k1 h1 => ((ans_sl 47 #[pA b1, pA b2] w1 (restR p.n b) (fun _ => by kernel_rfl) (fun w2 kk => rest1_any p b b1 b2 w2 ((hp.keep (k1.keeps (fun _ h => h))).keep kk) ((kk.heap (Array.getElem?_eq_some_iff.1 (h1 (b1, aO #[.slice p.ba p.bs.length p.bc, iV p.near, iV p.last, .slice p.ta p.ts.length p.tc] 33) (List.mem_of_getElem? (i := 1) (by kernel_rfl)))).1).trans (h1 (b1, aO #[.slice p.ba p.bs.length p.bc, iV p.near, iV p.last, .slice p.ta p.ts.length p.tc] 33) (List.mem_of_getElem? (i := 1) (by kernel_rfl)))) ((kk.heap (Array.getElem?_eq_some_iff.1 (h1 (b2, aO #[iV b] 3) (List.mem_of_getElem? (i := 0) (by kernel_rfl)))).1).trans (h1 (b2, aO #[iV b] 3) (List.mem_of_getElem? (i := 0) (by kernel_rfl)))))).mono fun _ _ hh => hh.elim (fun hh => hh.2) (fun hh => absurd hh.1 (by rw [hd1]; simp)))) ?_
    refine run_auto [] 5 [] [] [4, 5] [] (st' := ⟨[(4, .slice none 0 0), (5, iV (erA (restR p.n b)))], []⟩) (acc := []) (by kernel_rfl) (by kernel_rfl) trivial ?_
    refine run_end (fn := f16) rfl (Nat.le_refl _) (by kernel_rfl) [] [.slice none 0 0, iV (erA (restR p.n b))] (e := []) (by kernel_rfl) trivial (fun w1 k1 h1 => ?_)
    exact .inl ⟨hd1, rfl, k1.keeps (fun _ h => h)⟩

set_option maxRecDepth 100000 in
theorem Wait_any (p : Sb) (b xx : Int) (w : World) (hp : p.In w) : Calls Try.prog 17 #[.agg #[.slice p.ba p.bs.length p.bc, .int .i64 p.near, .int .i64 p.last, .slice p.ta p.ts.length p.tc], .int .i64 b, .int .i64 xx] w (Ret (.tuple #[.int .i64 (inA (waitR p.n b xx)), .int .i64 (erA (waitR p.n b xx))]) w) := by
  refine calls_run (fn := f17) (c := (f17.body).getD .skip) [.agg #[.slice p.ba p.bs.length p.bc, .int .i64 p.near, .int .i64 p.last, .slice p.ta p.ts.length p.tc], .int .i64 b, .int .i64 xx] func17 (by kernel_rfl) (fun _ => False) [] (fun _ h => by cases h) (List.Pairwise.nil) 12 (by kernel_rfl) (by simp) ?_
  refine run_auto [] 2 [] [] [0, 1, 2] [] (st' := ⟨[(0, .agg #[.slice p.ba p.bs.length p.bc, iV p.near, iV p.last, .slice p.ta p.ts.length p.tc]), (1, iV b), (2, iV xx)], []⟩) (acc := []) (by kernel_rfl) (by kernel_rfl) trivial ?_
  refine run_new (aO #[.slice p.ba p.bs.length p.bc, iV p.near, iV p.last, .slice p.ta p.ts.length p.tc] 33) (fun b1 => pA b1) (some 3) (fun _ => by kernel_rfl) (fun b1 hb1 => ?_)
  refine run_new (aO #[iV b] 3) (fun b2 => pA b2) (some 4) (fun _ => by kernel_rfl) (fun b2 hb2 => ?_)
  refine run_new (aO #[iV xx] 3) (fun b3 => pA b3) (some 5) (fun _ => by kernel_rfl) (fun b3 hb3 => ?_)
  refine run_auto [] 6 [] [] [6, 7, 8] [0, 1, 2] (st' := ⟨[(6, iV 0), (7, iV 0), (8, .func (.func 49) #[] #[pA b1, pA b2, pA b3])], [(b3, aO #[iV xx] 3), (b2, aO #[iV b] 3), (b1, aO #[.slice p.ba p.bs.length p.bc, iV p.near, iV p.last, .slice p.ta p.ts.length p.tc] 33)]⟩) (acc := []) (by kernel_rfl) (by kernel_rfl) trivial ?_
  refine run_ret1 40 #[.func (.func 49) #[] #[pA b1, pA b2, pA b3]] (some 9) (.tuple #[iV (inA (waitR p.n b xx)), iV (erA (waitR p.n b xx))]) (by kernel_rfl) (fun w1 k1 h1 => ans_int 49 #[pA b1, pA b2, pA b3] w1 (waitR p.n b xx) (fun _ => by kernel_rfl) (fun w2 kk => wait1_any p b xx b1 b2 b3 w2 ((hp.keep (k1.keeps (fun _ h => h))).keep kk) ((kk.heap (Array.getElem?_eq_some_iff.1 (h1 (b1, aO #[.slice p.ba p.bs.length p.bc, iV p.near, iV p.last, .slice p.ta p.ts.length p.tc] 33) (List.mem_of_getElem? (i := 2) (by kernel_rfl)))).1).trans (h1 (b1, aO #[.slice p.ba p.bs.length p.bc, iV p.near, iV p.last, .slice p.ta p.ts.length p.tc] 33) (List.mem_of_getElem? (i := 2) (by kernel_rfl)))) ((kk.heap (Array.getElem?_eq_some_iff.1 (h1 (b2, aO #[iV b] 3) (List.mem_of_getElem? (i := 1) (by kernel_rfl)))).1).trans (h1 (b2, aO #[iV b] 3) (List.mem_of_getElem? (i := 1) (by kernel_rfl)))) ((kk.heap (Array.getElem?_eq_some_iff.1 (h1 (b3, aO #[iV xx] 3) (List.mem_of_getElem? (i := 0) (by kernel_rfl)))).1).trans (h1 (b3, aO #[iV xx] 3) (List.mem_of_getElem? (i := 0) (by kernel_rfl)))))) ?_
  refine run_auto [] 5 [] [] [6, 7] [] (st' := ⟨[(6, iV (inA (waitR p.n b xx))), (7, iV (erA (waitR p.n b xx)))], []⟩) (acc := []) (by kernel_rfl) (by kernel_rfl) trivial ?_
  refine run_end (fn := f17) rfl (Nat.le_refl _) (by kernel_rfl) [] [iV (inA (waitR p.n b xx)), iV (erA (waitR p.n b xx))] (e := []) (by kernel_rfl) trivial (fun w1 k1 h1 => ?_)
  exact ⟨rfl, k1.keeps (fun _ h => h)⟩

set_option maxRecDepth 100000 in
theorem Latest_any (p : Sb) (b m xx : Int) (w : World) (hp : p.In w) : Calls Try.prog 18 #[.agg #[.slice p.ba p.bs.length p.bc, .int .i64 p.near, .int .i64 p.last, .slice p.ta p.ts.length p.tc], .int .i64 b, .int .i64 xx, .int .i64 m] w (Ret (.tuple #[.int .i64 (inA (latR p.n b xx m)), .int .i64 (erA (latR p.n b xx m))]) w) := by
  refine calls_run (fn := f18) (c := (f18.body).getD .skip) [.agg #[.slice p.ba p.bs.length p.bc, .int .i64 p.near, .int .i64 p.last, .slice p.ta p.ts.length p.tc], .int .i64 b, .int .i64 xx, .int .i64 m] func18 (by kernel_rfl) (fun _ => False) [] (fun _ h => by cases h) (List.Pairwise.nil) 14 (by kernel_rfl) (by simp) ?_
  refine run_auto [] 2 [] [] [0, 1, 2, 3] [] (st' := ⟨[(0, .agg #[.slice p.ba p.bs.length p.bc, iV p.near, iV p.last, .slice p.ta p.ts.length p.tc]), (1, iV b), (2, iV xx), (3, iV m)], []⟩) (acc := []) (by kernel_rfl) (by kernel_rfl) trivial ?_
  refine run_new (aO #[.slice p.ba p.bs.length p.bc, iV p.near, iV p.last, .slice p.ta p.ts.length p.tc] 33) (fun b1 => pA b1) (some 4) (fun _ => by kernel_rfl) (fun b1 hb1 => ?_)
  refine run_new (aO #[iV b] 3) (fun b2 => pA b2) (some 5) (fun _ => by kernel_rfl) (fun b2 hb2 => ?_)
  refine run_new (aO #[iV xx] 3) (fun b3 => pA b3) (some 6) (fun _ => by kernel_rfl) (fun b3 hb3 => ?_)
  refine run_new (aO #[iV m] 3) (fun b4 => pA b4) (some 7) (fun _ => by kernel_rfl) (fun b4 hb4 => ?_)
  refine run_auto [] 6 [] [] [8, 9, 10] [0, 1, 2, 3] (st' := ⟨[(8, iV 0), (9, iV 0), (10, .func (.func 56) #[] #[pA b1, pA b2, pA b4, pA b3])], [(b4, aO #[iV m] 3), (b3, aO #[iV xx] 3), (b2, aO #[iV b] 3), (b1, aO #[.slice p.ba p.bs.length p.bc, iV p.near, iV p.last, .slice p.ta p.ts.length p.tc] 33)]⟩) (acc := []) (by kernel_rfl) (by kernel_rfl) trivial ?_
  refine run_ret1 40 #[.func (.func 56) #[] #[pA b1, pA b2, pA b4, pA b3]] (some 11) (.tuple #[iV (inA (latR p.n b xx m)), iV (erA (latR p.n b xx m))]) (by kernel_rfl) (fun w1 k1 h1 => ans_int 56 #[pA b1, pA b2, pA b4, pA b3] w1 (latR p.n b xx m) (fun _ => by kernel_rfl) (fun w2 kk => lat1_any p b m xx b1 b2 b4 b3 w2 ((hp.keep (k1.keeps (fun _ h => h))).keep kk) ((kk.heap (Array.getElem?_eq_some_iff.1 (h1 (b1, aO #[.slice p.ba p.bs.length p.bc, iV p.near, iV p.last, .slice p.ta p.ts.length p.tc] 33) (List.mem_of_getElem? (i := 3) (by kernel_rfl)))).1).trans (h1 (b1, aO #[.slice p.ba p.bs.length p.bc, iV p.near, iV p.last, .slice p.ta p.ts.length p.tc] 33) (List.mem_of_getElem? (i := 3) (by kernel_rfl)))) ((kk.heap (Array.getElem?_eq_some_iff.1 (h1 (b2, aO #[iV b] 3) (List.mem_of_getElem? (i := 2) (by kernel_rfl)))).1).trans (h1 (b2, aO #[iV b] 3) (List.mem_of_getElem? (i := 2) (by kernel_rfl)))) ((kk.heap (Array.getElem?_eq_some_iff.1 (h1 (b4, aO #[iV m] 3) (List.mem_of_getElem? (i := 0) (by kernel_rfl)))).1).trans (h1 (b4, aO #[iV m] 3) (List.mem_of_getElem? (i := 0) (by kernel_rfl)))) ((kk.heap (Array.getElem?_eq_some_iff.1 (h1 (b3, aO #[iV xx] 3) (List.mem_of_getElem? (i := 1) (by kernel_rfl)))).1).trans (h1 (b3, aO #[iV xx] 3) (List.mem_of_getElem? (i := 1) (by kernel_rfl)))))) ?_
  refine run_auto [] 5 [] [] [8, 9] [] (st' := ⟨[(8, iV (inA (latR p.n b xx m))), (9, iV (erA (latR p.n b xx m)))], []⟩) (acc := []) (by kernel_rfl) (by kernel_rfl) trivial ?_
  refine run_end (fn := f18) rfl (Nat.le_refl _) (by kernel_rfl) [] [iV (inA (latR p.n b xx m)), iV (erA (latR p.n b xx m))] (e := []) (by kernel_rfl) trivial (fun w1 k1 h1 => ?_)
  exact ⟨rfl, k1.keeps (fun _ h => h)⟩

end Go.Proofs.Ytfjfkaaflghaiaa
