/-
  WEAR: what is kept; is there a truth; after which events a block is too short.
  WEAR: what a block has lost.
-/
import Derived.Test.YtdehgplklgfcdaaGreatGe
import Derived.Test.YtdehgplklgfcdaaGreatGc
import Derived.Test.YtdehgplklgfcdaaGreatGb
namespace Go.Proofs.YtdehgplklgfcdaaGreat
open Go.RowKit Go.Proofs.Tryz

theorem looked_fields : Tryz.prog.underlying 132 = some (.struct (Tryz.prog.fieldsOf 132)) := by kernel_rfl
theorem looked_held : Tryz.prog.stoodInHeld 132 = false := by kernel_rfl
theorem looked_list : (Tryz.prog.fieldsOf 132).toList.map (fun f => (f.name, f.type, f.offset)) = [("readings", 86, 0)] := by kernel_rfl
theorem looked_eq (x0 y0 : Int) (w : World) : (Op.equal 132 (.agg #[.int .i64 x0]) (.agg #[.int .i64 y0])).run Tryz.prog w = .ok (x0 == y0) w := by
  have key : (Op.equalIn 10000 132 (.agg #[.int .i64 x0]) (.agg #[.int .i64 y0])).run Tryz.prog w = .ok (x0 == y0) w := by
    rw [run_equalIn_agg w 9999 _ _ _ looked_fields looked_held]
    have h := looked_list
    match hf : (Tryz.prog.fieldsOf 132).toList, h with
    | [f0], h =>
      simp only [List.map_cons, List.map_nil, List.cons.injEq, Prod.mk.injEq, and_true] at h
      obtain ⟨q0a, q0b, q0c⟩ := h
      simp [Op.eqFields, q0a, q0b, q0c, go_sem]
      by_cases e0 : x0 = y0 <;> simp [e0]
    | [], h => simp at h
    | _ :: _ :: _, h => simp at h
  simp only [Op.equal, Op.maxDepth]
  exact key
theorem looked (X Y : Operand) (x0 y0 : Int) (w : World) : ((do eqGuard .eql 132 X Y (.agg #[.int .i64 x0]) (.agg #[.int .i64 y0]); binOp .eql 132 (.agg #[.int .i64 x0]) (.agg #[.int .i64 y0])) >>= fun v => pure (Next.value v)).run Tryz.prog w = .ok (.value (.bool (x0 == y0))) w := by
  have hg := run_eqGuard_agg (P := Tryz.prog) (w := w) .eql 132 X Y #[.int .i64 x0] #[.int .i64 y0] (by kernel_rfl)
  simp only [binOp]
  simp [hg, looked_eq, Result.andThen]
def kvS (s : Nat) : Value := .agg #[.int .i64 (s : Int)]
def vvS (w : Wn) (s : Nat) : Value := .agg (rowL 9 (cC (w.look s))).toArray
theorem eq_kvS (a b : Nat) (w : World) : (Op.equal 132 (kvS a) (kvS b)).run Tryz.prog w = .ok (decide (a = b)) w := by
  unfold kvS
  rw [looked_eq]
  congr 1
  by_cases e : a = b
  · subst e
    simp
  · rw [decide_eq_false e, beq_eq_false_iff_ne]
    omega
theorem ck_kvS (e : Bool) (x : Nat) (w : World) : (Instr.checkKey e 10000 132 (kvS x)).run Tryz.prog w = .ok () w := by cases e <;> kernel_rfl
/-- The events lie where nobody writes. -/
structure Wb.InD (p : Wb) (D : Nat → Prop) (w : World) : Prop where
  ev : EvsD p.es p.ea D w
  ln : p.es.length ≤ maxLen
theorem Wb.InD.at {p : Wb} {D : Nat → Prop} {w w' : World} (h : p.InD D w) (k : Kept D w w') : p.In w' := by
  refine ⟨fun hx => ?_, h.ln⟩
  obtain ⟨b, o, e, hd, hc⟩ := h.ev hx
  exact ⟨b, o, e, fun i hi => ⟨k.cell (hc i hi).1 hd, k.cell (hc i hi).2.1 hd, k.cell (hc i hi).2.2.1 hd, k.cell (hc i hi).2.2.2 hd⟩⟩
theorem Wb.In.map {p : Wb} {w : World} {b c : Nat} {es : Array MapEntry} (h : p.In w) (hb : w.heap[b]? = some (.map es c)) : p.InD (fun x => x = b) w := by
  refine ⟨fun hx => ?_, h.ln⟩
  obtain ⟨b', o, e, hc⟩ := h.ev hx
  refine ⟨b', o, e, fun hbb => ?_, hc⟩
  have h0 := (hc 0 (List.length_pos_iff.2 hx)).1
  subst hbb
  simp [World.cell?, hb] at h0
def memI (L : List Nat) (s : Nat) : List Nat := if s ∈ L then L else L ++ [s]
theorem mC_le (w : Wn) {k : Nat} (h : k ≤ w.es.length) : mC w k = w.B k := if_pos h
theorem can_is (w : Wn) : possS (mC w 0) = w.can := by rw [mC_le w (Nat.zero_le _)]; rfl
set_option maxRecDepth 100000 in
theorem coursePossible_any (n : Wn) (w : World)  : Calls Tryz.prog 100 #[.agg (rowL 9 (cC n)).toArray] w (RetB n.can w) := by
  refine calls_run (fn := f100) (c := (f100.body).getD .skip) [.agg (rowL 9 (cC n)).toArray] func100 (by kernel_rfl) (fun _ => False) [] (fun _ h => by cases h) (List.Pairwise.nil) 6 (by kernel_rfl) (by simp) ?_
  refine run_auto [] 2 [] [] [0] [] (st' := ⟨[(0, .agg (rowL 9 (cC n)).toArray)], []⟩) (acc := []) (by kernel_rfl) (by kernel_rfl) trivial ?_
  refine run_new (cO (rowL 9 (cC n)) 77) (fun b1 => pA b1) (some 1) (fun _ => by kernel_rfl) (fun b1 hb1 => ?_)
  refine run_auto [] 5 [] [] [2, 3] [0] (st' := ⟨[(2, .bool false), (3, pA b1)], [(b1, cO (rowL 9 (cC n)) 77)]⟩) (acc := []) (by kernel_rfl) (by kernel_rfl) trivial ?_
  refine run_v (Instr.loadAt 75 (pA b1) >>= fun v => pure (Next.value v)) (some 4) (.agg #[iV (mC n 0).1, iV (mC n 0).2]) (by kernel_rfl) (fun w1 k1 h1 => load_own (e := 77) (fr := (0, 0)) (c := rowL 9 (cC n)) h1 (List.mem_of_getElem? (i := 0) (by kernel_rfl)) (row_loadS (n := 2) (i := 0) (by kernel_rfl) (by kernel_rfl) (fun _ _ => rfl) (by omega))) ?_
  cases hd1 : (possS (mC n 0)) with
  | false =>
    refine run_ret1 104 #[.agg #[iV (mC n 0).1, iV (mC n 0).2]] (some 5) (.bool false) (by kernel_rfl) (fun w1 k1 h1 => (by have h := possible_any (mC n 0).1 (mC n 0).2 w1; rw [hd1] at h; exact h)) ?_
    refine run_auto [] 2 [] [] [2] [] (st' := ⟨[(2, .bool false)], []⟩) (acc := []) (by kernel_rfl) (by kernel_rfl) trivial ?_
    refine run_end (fn := f100) rfl (Nat.le_refl _) (by kernel_rfl) [] [.bool false] (e := []) (by kernel_rfl) trivial (fun w1 k1 h1 => ?_)
    exact ⟨by rw [← can_is, hd1]; rfl, k1.keeps (fun _ h => h)⟩
  | true =>
    refine run_ret1 104 #[.agg #[iV (mC n 0).1, iV (mC n 0).2]] (some 5) (.bool true) (by kernel_rfl) (fun w1 k1 h1 => (by have h := possible_any (mC n 0).1 (mC n 0).2 w1; rw [hd1] at h; exact h)) ?_
    refine run_auto [] 2 [] [] [2] [] (st' := ⟨[(2, .bool true)], []⟩) (acc := []) (by kernel_rfl) (by kernel_rfl) trivial ?_
    refine run_end (fn := f100) rfl (Nat.le_refl _) (by kernel_rfl) [] [.bool true] (e := []) (by kernel_rfl) trivial (fun w1 k1 h1 => ?_)
    exact ⟨by rw [← can_is, hd1]; rfl, k1.keeps (fun _ h => h)⟩

set_option maxRecDepth 100000 in
theorem historyOf_any (p : Wb) (w : World)  : Calls Tryz.prog 97 #[.agg #[.int .i64 p.ll, .int .i64 p.lh, .int .i64 p.ul, .int .i64 p.uh, .slice p.ea p.es.length p.ec]] w (Nw (α := Unit) (fun _ b => .agg #[.int .i64 p.ll, .int .i64 p.lh, .int .i64 p.ul, .int .i64 p.uh, .slice p.ea p.es.length p.ec, .map (some b)]) (fun _ => memO kvS (vvS p.n) []) (fun _ => True) w) := by
  refine calls_run (fn := f97) (c := (f97.body).getD .skip) [.agg #[.int .i64 p.ll, .int .i64 p.lh, .int .i64 p.ul, .int .i64 p.uh, .slice p.ea p.es.length p.ec]] func97 (by kernel_rfl) (fun _ => False) [] (fun _ h => by cases h) (List.Pairwise.nil) 6 (by kernel_rfl) (by simp) ?_
  refine run_auto [] 2 [] [] [0] [] (st' := ⟨[(0, .agg #[iV p.ll, iV p.lh, iV p.ul, iV p.uh, .slice p.ea p.es.length p.ec])], []⟩) (acc := []) (by kernel_rfl) (by kernel_rfl) trivial ?_
  refine run_new (aO #[iV p.ll, iV p.lh, iV p.ul, iV p.uh, .slice p.ea p.es.length p.ec] 26) (fun b1 => pA b1) (some 1) (fun _ => by kernel_rfl) (fun b1 hb1 => ?_)
  refine run_new (aO #[iV 0, iV 0, iV 0, iV 0, .slice none 0 0, .map none] 127) (fun b2 => pA b2) (some 2) (fun _ => by kernel_rfl) (fun b2 hb2 => ?_)
  refine run_auto [] 4 [] [1] [2, 3] [0] (st' := ⟨[(2, pA b2), (3, .agg #[iV p.ll, iV p.lh, iV p.ul, iV p.uh, .slice p.ea p.es.length p.ec])], [(b2, aO #[iV 0, iV 0, iV 0, iV 0, .slice none 0 0, .map none] 127)]⟩) (acc := [(pA b1, pA b1)]) (by kernel_rfl) (by kernel_rfl) ⟨rfl, trivial⟩ ?_
  refine run_new (.map #[] 0) (fun b3 => .map (some b3)) (some 4) (fun _ => by kernel_rfl) (fun b3 hb3 => ?_)
  refine run_auto [] 3 [] [1] [2] [0, 1] (st' := ⟨[(2, pA b2)], [(b3, .map #[] 0), (b2, aO #[iV p.ll, iV p.lh, iV p.ul, iV p.uh, .slice p.ea p.es.length p.ec, .map (some b3)] 127)]⟩) (acc := [(pA b2, pA b2)]) (by kernel_rfl) (by kernel_rfl) ⟨rfl, trivial⟩ ?_
  refine run_end (fn := f97) rfl (Nat.le_refl _) (by kernel_rfl) [1] [.agg #[iV p.ll, iV p.lh, iV p.ul, iV p.uh, .slice p.ea p.es.length p.ec, .map (some b3)]] (e := [(pA b2, pA b2)]) (by kernel_rfl) ⟨rfl, trivial⟩ (fun w1 k1 h1 => ?_)
  exact ⟨(), b3, trivial, hb3, rfl, k1.keeps (fun _ h => h), h1 (b3, _) (List.mem_of_getElem? (i := 0) rfl)⟩

set_option maxRecDepth 100000 in
theorem hcourse_any (p : Wb) (bm s : Nat) (L : List Nat) (w : World) (hw : w.heap[bm]? = some (memO kvS (vvS p.n) L)) (hin : p.InD (fun x => x = bm) w) (hln : p.es.length ≤ maxLen) (hF : p.n.Fine) (hs : s < 256) : Calls Tryz.prog 98 #[.agg #[.int .i64 p.ll, .int .i64 p.lh, .int .i64 p.ul, .int .i64 p.uh, .slice p.ea p.es.length p.ec, .map (some bm)], .agg #[.int .i64 (s : Int)]] w (Wr bm (vvS p.n s) (memO kvS (vvS p.n) (memI L s)) w) := by
  refine calls_run (fn := f98) (c := (f98.body).getD .skip) [.agg #[.int .i64 p.ll, .int .i64 p.lh, .int .i64 p.ul, .int .i64 p.uh, .slice p.ea p.es.length p.ec, .map (some bm)], .agg #[.int .i64 (s : Int)]] func98 (by kernel_rfl) (fun x => x = bm) [(bm, memO kvS (vvS p.n) L)] (fun p hp => by rcases List.mem_singleton.1 hp with rfl; exact ⟨hw, rfl, rfl⟩) (List.pairwise_singleton _ _) 26 (by kernel_rfl) (by simp) ?_
  refine run_auto [] 2 [] [] [0, 1] [0] (st' := ⟨[(0, .agg #[iV p.ll, iV p.lh, iV p.ul, iV p.uh, .slice p.ea p.es.length p.ec, .map (some bm)]), (1, .agg #[iV (s : Int)])], [(bm, memO kvS (vvS p.n) L)]⟩) (acc := []) (by kernel_rfl) (by kernel_rfl) trivial ?_
  refine run_new (aO #[iV p.ll, iV p.lh, iV p.ul, iV p.uh, .slice p.ea p.es.length p.ec, .map (some bm)] 127) (fun b1 => pA b1) (some 2) (fun _ => by kernel_rfl) (fun b1 hb1 => ?_)
  refine run_new (aO #[iV (s : Int)] 132) (fun b2 => pA b2) (some 3) (fun _ => by kernel_rfl) (fun b2 hb2 => ?_)
  refine run_new (aO #[iV 0, iV 0, iV 0, iV 0, iV 0, iV 0, iV 0, iV 0, iV 0, iV 0, iV 0, iV 0, iV 0, iV 0, iV 0, iV 0, iV 0, iV 0] 77) (fun b3 => pA b3) (some 4) (fun _ => by kernel_rfl) (fun b3 hb3 => ?_)
  refine run_auto [] 6 [] [2, 1] [2, 3, 4, 9, 10] [0, 1, 2, 3] (st' := ⟨[(2, pA b1), (3, pA b2), (4, pA b3), (9, .map (some bm)), (10, .agg #[iV (s : Int)])], [(b3, aO #[iV 0, iV 0, iV 0, iV 0, iV 0, iV 0, iV 0, iV 0, iV 0, iV 0, iV 0, iV 0, iV 0, iV 0, iV 0, iV 0, iV 0, iV 0] 77), (b2, aO #[iV (s : Int)] 132), (b1, aO #[iV p.ll, iV p.lh, iV p.ul, iV p.uh, .slice p.ea p.es.length p.ec, .map (some bm)] 127), (bm, memO kvS (vvS p.n) L)]⟩) (acc := [(pA b2, pA b2), (pA b1, pA b1)]) (by kernel_rfl) (by kernel_rfl) ⟨rfl, rfl, trivial⟩ ?_
  cases hd1 : (decide (s ∈ L)) with
  | false =>
    have hp1 := of_decide_eq_false hd1
    refine run_v (Instr.lookup 125 (.map (some bm)) (.agg #[iV (s : Int)]) true >>= fun v => pure (Next.value v)) (some 11) (.tuple #[.agg #[iV 0, iV 0, iV 0, iV 0, iV 0, iV 0, iV 0, iV 0, iV 0, iV 0, iV 0, iV 0, iV 0, iV 0, iV 0, iV 0, iV 0, iV 0], .bool false]) (by kernel_rfl) (fun w1 k1 h1 => (by have h := look_mem (P := Tryz.prog) (t := 125) (kt := 132) (et := 77) (z := .agg #[iV 0, iV 0, iV 0, iV 0, iV 0, iV 0, iV 0, iV 0, iV 0, iV 0, iV 0, iV 0, iV 0, iV 0, iV 0, iV 0, iV 0, iV 0]) (by kernel_rfl) (by kernel_rfl) eq_kvS ck_kvS (fun w => by kernel_rfl) (h1 (bm, memO kvS (vvS p.n) L) (List.mem_of_getElem? (i := 3) (by kernel_rfl))) s; rw [if_neg (of_decide_eq_false hd1), hd1] at h; exact h)) ?_
    refine run_auto [] 3 [] [] [2, 3, 4, 12, 13] [0, 1, 2, 3] (st' := ⟨[(2, pA b1), (3, pA b2), (4, pA b3), (12, .agg #[iV 0, iV 0, iV 0, iV 0, iV 0, iV 0, iV 0, iV 0, iV 0, iV 0, iV 0, iV 0, iV 0, iV 0, iV 0, iV 0, iV 0, iV 0]), (13, .bool false)], [(b3, aO #[iV 0, iV 0, iV 0, iV 0, iV 0, iV 0, iV 0, iV 0, iV 0, iV 0, iV 0, iV 0, iV 0, iV 0, iV 0, iV 0, iV 0, iV 0] 77), (b2, aO #[iV (s : Int)] 132), (b1, aO #[iV p.ll, iV p.lh, iV p.ul, iV p.uh, .slice p.ea p.es.length p.ec, .map (some bm)] 127), (bm, memO kvS (vvS p.n) L)]⟩) (acc := []) (by kernel_rfl) (by kernel_rfl) trivial ?_
    refine run_new (aO #[iV 0, iV 0, iV 0, iV 0, iV 0, iV 0, iV 0, iV 0, iV 0, iV 0, iV 0, iV 0, iV 0, iV 0, iV 0, iV 0, iV 0, iV 0] 77) (fun b4 => pA b4) (some 5) (fun _ => by kernel_rfl) (fun b4 hb4 => ?_)
    refine run_auto [(15, .bool true)] 15 [true] [0, 3, 2] [2, 3, 4, 5, 17, 18] [0, 1, 2, 3, 4] (st' := ⟨[(2, pA b1), (3, pA b2), (4, pA b3), (5, pA b4), (17, .agg #[iV p.ll, iV p.lh, iV p.ul, iV p.uh, .slice p.ea p.es.length p.ec]), (18, .agg #[iV (s : Int)])], [(b4, aO #[iV 0, iV 0, iV 0, iV 0, iV 0, iV 0, iV 0, iV 0, iV 0, iV 0, iV 0, iV 0, iV 0, iV 0, iV 0, iV 0, iV 0, iV 0] 77), (b3, aO #[iV 0, iV 0, iV 0, iV 0, iV 0, iV 0, iV 0, iV 0, iV 0, iV 0, iV 0, iV 0, iV 0, iV 0, iV 0, iV 0, iV 0, iV 0] 77), (b2, aO #[iV (s : Int)] 132), (b1, aO #[iV p.ll, iV p.lh, iV p.ul, iV p.uh, .slice p.ea p.es.length p.ec, .map (some bm)] 127), (bm, memO kvS (vvS p.n) L)]⟩) (acc := [(pA b2, pA b2), (pA b1, pA b1), (.bool true, .bool true), (.bool true, .bool true), (pA b4, pA b4)]) (by kernel_rfl) (by kernel_rfl) ⟨rfl, rfl, rfl, rfl, rfl, trivial⟩ ?_
    refine run_nw 123 #[.agg #[iV p.ll, iV p.lh, iV p.ul, iV p.uh, .slice p.ea p.es.length p.ec], .agg #[iV (s : Int)]] (some 19) (α := Unit) (fun _u b5 => .agg #[iV p.ll, iV p.lh, iV p.ul, iV p.uh, sV b5 p.es.length p.es.length]) (fun _u => cO ((lkL s p.es).flatMap evR ++ []) 55) (fun _u => True) (by kernel_rfl) (fun _ => rfl) (fun w1 k1 h1 => looking_any p s w1 (hin.at k1) hF hs) (fun _u b5 hIb5 hb5 => ?_)
    refine run_ret1 122 #[.agg #[iV p.ll, iV p.lh, iV p.ul, iV p.uh, sV b5 p.es.length p.es.length]] (some 20) (.agg (rowL 9 (cC (p.n.look s))).toArray) (by kernel_rfl) (fun w1 k1 h1 => (by have h := courseOf_any (p.evs b5 p.es.length (lkL s p.es)) w1 (Wb.In.evs (h1 (b5, cO ((lkL s p.es).flatMap evR ++ []) 55) (List.mem_of_getElem? (i := 0) (by kernel_rfl))) (by rw [lkL_len]; exact hln)) (hF.look s); rw [show (p.evs b5 p.es.length (lkL s p.es)).es.length = p.es.length from lkL_len s p.es] at h; exact h)) ?_
    refine run_auto [] 7 [] [1, 4, 3, 1] [4, 5, 22, 23, 24] [1, 2, 5] (st' := ⟨[(4, pA b3), (5, pA b4), (22, .map (some bm)), (23, .agg #[iV (s : Int)]), (24, .agg (rowL 9 (cC (p.n.look s))).toArray)], [(b4, cO (rowL 9 (cC (p.n.look s))) 77), (b3, aO #[iV 0, iV 0, iV 0, iV 0, iV 0, iV 0, iV 0, iV 0, iV 0, iV 0, iV 0, iV 0, iV 0, iV 0, iV 0, iV 0, iV 0, iV 0] 77), (bm, memO kvS (vvS p.n) L)]⟩) (acc := [(pA b4, pA b4), (pA b2, pA b2), (pA b1, pA b1), (pA b4, pA b4)]) (by kernel_rfl) (by kernel_rfl) ⟨rfl, rfl, rfl, rfl, trivial⟩ ?_
    refine run_mem (kv := kvS) (vv := (vvS p.n)) 2 bm 125 77 L s (by kernel_rfl) (by kernel_rfl) (by kernel_rfl) (by kernel_rfl) ck_kvS eq_kvS (of_decide_eq_false hd1) ?_
    refine run_auto [] 6 [] [0, 1] [4] [1, 2] (st' := ⟨[(4, pA b3)], [(b3, cO (rowL 9 (cC (p.n.look s))) 77), (bm, memO kvS (vvS p.n) (L ++ [s]))]⟩) (acc := [(pA b3, pA b3), (pA b4, pA b4)]) (by kernel_rfl) (by kernel_rfl) ⟨rfl, rfl, trivial⟩ ?_
    refine run_end (fn := f98) rfl (Nat.le_refl _) (by kernel_rfl) [0] [.agg (rowL 9 (cC (p.n.look s))).toArray] (e := [(pA b3, pA b3)]) (by kernel_rfl) ⟨rfl, trivial⟩ (fun w1 k1 h1 => ?_)
    exact ⟨rfl, k1, by rw [show memI L s = L ++ [s] from if_neg (of_decide_eq_false hd1)]; exact h1 (bm, _) (List.mem_of_getElem? (i := 1) rfl)⟩
  | true =>
    have hp1 := of_decide_eq_true hd1
    refine run_v (Instr.lookup 125 (.map (some bm)) (.agg #[iV (s : Int)]) true >>= fun v => pure (Next.value v)) (some 11) (.tuple #[.agg (rowL 9 (cC (p.n.look s))).toArray, .bool true]) (by kernel_rfl) (fun w1 k1 h1 => (by have h := look_mem (P := Tryz.prog) (t := 125) (kt := 132) (et := 77) (z := .agg #[iV 0, iV 0, iV 0, iV 0, iV 0, iV 0, iV 0, iV 0, iV 0, iV 0, iV 0, iV 0, iV 0, iV 0, iV 0, iV 0, iV 0, iV 0]) (by kernel_rfl) (by kernel_rfl) eq_kvS ck_kvS (fun w => by kernel_rfl) (h1 (bm, memO kvS (vvS p.n) L) (List.mem_of_getElem? (i := 3) (by kernel_rfl))) s; rw [if_pos (of_decide_eq_true hd1), hd1] at h; exact h)) ?_
    refine run_auto [] 3 [] [] [2, 3, 4, 12, 13] [0, 1, 2, 3] (st' := ⟨[(2, pA b1), (3, pA b2), (4, pA b3), (12, .agg (rowL 9 (cC (p.n.look s))).toArray), (13, .bool true)], [(b3, aO #[iV 0, iV 0, iV 0, iV 0, iV 0, iV 0, iV 0, iV 0, iV 0, iV 0, iV 0, iV 0, iV 0, iV 0, iV 0, iV 0, iV 0, iV 0] 77), (b2, aO #[iV (s : Int)] 132), (b1, aO #[iV p.ll, iV p.lh, iV p.ul, iV p.uh, .slice p.ea p.es.length p.ec, .map (some bm)] 127), (bm, memO kvS (vvS p.n) L)]⟩) (acc := []) (by kernel_rfl) (by kernel_rfl) trivial ?_
    refine run_new (aO #[iV 0, iV 0, iV 0, iV 0, iV 0, iV 0, iV 0, iV 0, iV 0, iV 0, iV 0, iV 0, iV 0, iV 0, iV 0, iV 0, iV 0, iV 0] 77) (fun b4 => pA b4) (some 5) (fun _ => by kernel_rfl) (fun b4 hb4 => ?_)
    refine run_auto [(15, .bool false)] 16 [false] [0, 0, 1] [4] [1, 4] (st' := ⟨[(4, pA b3)], [(b3, cO (rowL 9 (cC (p.n.look s))) 77), (bm, memO kvS (vvS p.n) L)]⟩) (acc := [(pA b3, pA b3), (pA b4, pA b4), (.bool false, .bool false), (.bool false, .bool false), (pA b4, pA b4)]) (by kernel_rfl) (by kernel_rfl) ⟨rfl, rfl, rfl, rfl, rfl, trivial⟩ ?_
    refine run_end (fn := f98) rfl (Nat.le_refl _) (by kernel_rfl) [0] [.agg (rowL 9 (cC (p.n.look s))).toArray] (e := [(pA b3, pA b3)]) (by kernel_rfl) ⟨rfl, trivial⟩ (fun w1 k1 h1 => ?_)
    exact ⟨rfl, k1, by rw [show memI L s = L from if_pos (of_decide_eq_true hd1)]; exact h1 (bm, _) (List.mem_of_getElem? (i := 1) rfl)⟩


/-- A course, or a panic if there is no truth. -/
def Tru (p : Wn) (v : Value) (w : World) (e : Ending) (w' : World) : Prop := bif p.can then Ret v w e w' else Pan 10 w e w'
set_option maxRecDepth 100000 in
theorem needTruth_any (p : Wb) (w : World) (hp : p.In w) (hF : p.n.Fine) : Calls Tryz.prog 45 #[.agg #[.int .i64 p.ll, .int .i64 p.lh, .int .i64 p.ul, .int .i64 p.uh, .slice p.ea p.es.length p.ec]] w (Tru p.n (.agg (rowL 9 (cC p.n)).toArray) w) := by
  have hn8 : p.es.length ≤ 8 := hF.n8
  have hrd : p.n.reads < 256 := Nat.lt_of_lt_of_le (bitsP_lt _ _) (Nat.pow_le_pow_right (by omega) hn8 : 2 ^ p.es.length ≤ 2 ^ 8)
  refine calls_run (fn := f45) (c := (f45.body).getD .skip) [.agg #[.int .i64 p.ll, .int .i64 p.lh, .int .i64 p.ul, .int .i64 p.uh, .slice p.ea p.es.length p.ec]] func45 (by kernel_rfl) (fun _ => False) [] (fun _ h => by cases h) (List.Pairwise.nil) 15 (by kernel_rfl) (by simp) ?_
  refine run_auto [] 2 [] [] [0] [] (st' := ⟨[(0, .agg #[iV p.ll, iV p.lh, iV p.ul, iV p.uh, .slice p.ea p.es.length p.ec])], []⟩) (acc := []) (by kernel_rfl) (by kernel_rfl) trivial ?_
  refine run_new (aO #[iV p.ll, iV p.lh, iV p.ul, iV p.uh, .slice p.ea p.es.length p.ec] 26) (fun b1 => pA b1) (some 1) (fun _ => by kernel_rfl) (fun b1 hb1 => ?_)
  refine run_new (aO #[iV 0, iV 0, iV 0, iV 0, iV 0, iV 0, iV 0, iV 0, iV 0, iV 0, iV 0, iV 0, iV 0, iV 0, iV 0, iV 0, iV 0, iV 0] 77) (fun b2 => pA b2) (some 2) (fun _ => by kernel_rfl) (fun b2 hb2 => ?_)
  refine run_auto [] 2 [] [] [1, 2] [0, 1] (st' := ⟨[(1, pA b1), (2, pA b2)], [(b2, aO #[iV 0, iV 0, iV 0, iV 0, iV 0, iV 0, iV 0, iV 0, iV 0, iV 0, iV 0, iV 0, iV 0, iV 0, iV 0, iV 0, iV 0, iV 0] 77), (b1, aO #[iV p.ll, iV p.lh, iV p.ul, iV p.uh, .slice p.ea p.es.length p.ec] 26)]⟩) (acc := []) (by kernel_rfl) (by kernel_rfl) trivial ?_
  refine draw 8 [{ val := fun _ => .agg #[iV p.ll, iV p.lh, iV p.ul, iV p.uh, .slice p.ea p.es.length p.ec], slots := [1], reads := [1] },
      { names := [3], val := fun l => .agg #[iV p.ll, iV p.lh, iV p.ul, iV p.uh, .slice p.ea p.es.length p.ec, .map (some (l.getD 0 0))], upd := [(3, fun l => memO kvS (vvS p.n) [])], news := [3], slots := [4] },
      { val := fun _ => .agg #[iV p.ll, iV p.lh, iV p.ul, iV p.uh, .slice p.ea p.es.length p.ec], slots := [1], reads := [1] },
      { val := fun _ => iV (p.n.reads : Int), slots := [6] },
      { val := fun _ => .agg #[iV (p.n.reads : Int)], slots := [7] },
      { val := fun _ => .agg (rowL 9 (cC p.n)).toArray, upd := [(3, fun l => memO kvS (vvS p.n) (memI ([]) p.n.reads))], slots := [5, 8], reads := [3] },
      { names := [8], val := fun l => .pointer (some ⟨(l.getD 0 0), 0, none⟩), upd := [(8, fun l => aO #[iV 0, iV 0, iV 0, iV 0, iV 0, iV 0, iV 0, iV 0, iV 0, iV 0, iV 0, iV 0, iV 0, iV 0, iV 0, iV 0, iV 0, iV 0] 77)], news := [8] },
      { upd := [(8, fun l => cO (rowL 9 (cC p.n)) 77)], slots := [3, 9], reads := [8] }] [[], [0], [], [0, 1, 2], [0, 1, 2, 3], [0, 1, 2, 3, 4], [], [0, 1, 2, 3, 4, 5, 6]] (by kernel_rfl) (by kernel_rfl) (by kernel_rfl) (by kernel_rfl) [2, 3] [0, 8] (by kernel_rfl)
      ⟨⟨⟨⟨⟨⟨⟨⟨trivial,
      tri_quiet (fun β => []) [0] [0] (fun β => [(pA b1, pA b1)]) (by kernel_rfl) (fun β extra => by kernel_rfl) (by kernel_rfl) (fun β => ⟨rfl, trivial⟩)⟩,
      tri_nw 3 (fun β b => .agg #[iV p.ll, iV p.lh, iV p.ul, iV p.uh, .slice p.ea p.es.length p.ec, .map (some b)]) (fun β => memO kvS (vvS p.n) []) 97 (fun β => #[.agg #[iV p.ll, iV p.lh, iV p.ul, iV p.uh, .slice p.ea p.es.length p.ec]]) (by kernel_rfl) (fun β extra => by kernel_rfl) (fun β => by kernel_rfl) (fun β b => by kernel_rfl) (fun β b => by kernel_rfl) (fun β b => by kernel_rfl) (fun β w1 k1 h1 => historyOf_any p w1)⟩,
      tri_quiet (fun β => []) [0] [0] (fun β => [(pA b1, pA b1)]) (by kernel_rfl) (fun β extra => by kernel_rfl) (by kernel_rfl) (fun β => ⟨rfl, trivial⟩)⟩,
      tri_call 99 (fun β => #[.agg #[iV p.ll, iV p.lh, iV p.ul, iV p.uh, .slice p.ea p.es.length p.ec]]) (by kernel_rfl) (fun β extra => by kernel_rfl) (fun β => by kernel_rfl) (fun β w1 k1 h1 => readingsOf_any p w1 (hp.keep (k1.keeps (fun _ h => h))) hF)⟩,
      tri_quiet (fun β => []) [] [] (fun β => []) (by kernel_rfl) (fun β extra => by kernel_rfl) (by kernel_rfl) (fun β => trivial)⟩,
      tri_wr (fun β => (β 3)) (fun β => memO kvS (vvS p.n) []) (fun β => memO kvS (vvS p.n) (memI ([]) p.n.reads)) (fun β => []) (fun β => .agg (rowL 9 (cC p.n)).toArray) 98 (fun β => #[.agg #[iV p.ll, iV p.lh, iV p.ul, iV p.uh, .slice p.ea p.es.length p.ec, .map (some (β 3))], .agg #[iV (p.n.reads : Int)]]) (by kernel_rfl) (fun β extra => by kernel_rfl) (fun β => by kernel_rfl) (fun β => by kernel_rfl) (fun β => by kernel_rfl) (fun β => by kernel_rfl) (fun β w1 k1 h1 => (by have h := hcourse_any p (β 3) p.n.reads ([]) w1 (h1 ((β 3), memO kvS (vvS p.n) []) (List.mem_of_getElem? (i := 0) (by kernel_rfl))) ((hp.keep (k1.keeps (fun _ h => h))).map (h1 ((β 3), memO kvS (vvS p.n) []) (List.mem_of_getElem? (i := 0) (by kernel_rfl)))) hp.ln hF hrd; rw [show vvS p.n p.n.reads = .agg (rowL 9 (cC p.n)).toArray from by unfold vvS; rw [Wn.look_all]] at h; exact h))⟩,
      tri_new 8 (fun β => aO #[iV 0, iV 0, iV 0, iV 0, iV 0, iV 0, iV 0, iV 0, iV 0, iV 0, iV 0, iV 0, iV 0, iV 0, iV 0, iV 0, iV 0, iV 0] 77) (fun β b => pA b) [0] (by kernel_rfl) (fun β extra b => by kernel_rfl) (by kernel_rfl) (fun β b => by kernel_rfl) (fun β b => by kernel_rfl) (fun β b => by kernel_rfl)⟩,
      tri_quiet (fun β => []) [0] [0] (fun β => [(.pointer (some ⟨(β 8), 0, none⟩), .pointer (some ⟨(β 8), 0, none⟩))]) (by kernel_rfl) (fun β extra => by kernel_rfl) (by kernel_rfl) (fun β => ⟨rfl, trivial⟩)⟩
      (fun β => ⟨[(2, pA b2), (3, .pointer (some ⟨(β 8), 0, none⟩))], [(b2, aO #[iV 0, iV 0, iV 0, iV 0, iV 0, iV 0, iV 0, iV 0, iV 0, iV 0, iV 0, iV 0, iV 0, iV 0, iV 0, iV 0, iV 0, iV 0] 77), ((β 8), cO (rowL 9 (cC p.n)) 77)]⟩) (fun β => by kernel_rfl) (fun β3 => ?_)
  refine run_auto [] 4 [] [1] [2, 3, 10] [0, 1] (st' := ⟨[(2, pA b2), (3, .pointer (some ⟨(β3 8), 0, none⟩)), (10, .agg (rowL 9 (cC p.n)).toArray)], [(b2, aO #[iV 0, iV 0, iV 0, iV 0, iV 0, iV 0, iV 0, iV 0, iV 0, iV 0, iV 0, iV 0, iV 0, iV 0, iV 0, iV 0, iV 0, iV 0] 77), ((β3 8), cO (rowL 9 (cC p.n)) 77)]⟩) (acc := [(.pointer (some ⟨(β3 8), 0, none⟩), .pointer (some ⟨(β3 8), 0, none⟩))]) (by kernel_rfl) (by kernel_rfl) ⟨rfl, trivial⟩ ?_
  cases hd1 : p.n.can with
  | false =>
    refine run_ret1 100 #[.agg (rowL 9 (cC p.n)).toArray] (some 11) (.bool false) (by kernel_rfl) (fun w1 k1 h1 => (by have h := coursePossible_any p.n w1; rw [hd1] at h; exact h)) ?_
    refine run_auto [(12, .bool true)] 5 [true] [] [2, 3, 13] [0, 1] (st' := ⟨[(2, pA b2), (3, .pointer (some ⟨(β3 8), 0, none⟩)), (13, .iface 29 (iV 10))], [(b2, aO #[iV 0, iV 0, iV 0, iV 0, iV 0, iV 0, iV 0, iV 0, iV 0, iV 0, iV 0, iV 0, iV 0, iV 0, iV 0, iV 0, iV 0, iV 0] 77), ((β3 8), cO (rowL 9 (cC p.n)) 77)]⟩) (acc := [(.bool true, .bool true), (.bool true, .bool true)]) (by kernel_rfl) (by kernel_rfl) ⟨rfl, rfl, trivial⟩ ?_
    exact run_panic rfl (Nat.le_refl _) (Instr.panic (.iface 29 (iV 10)) >>= fun v => pure (Next.value v)) none (.iface 29 (iV 10)) (by kernel_rfl) (fun w => by kernel_rfl) (fun w1 k1 h1 => (by unfold Tru; rw [hd1]; exact ⟨rfl, k1.keeps (fun _ h => h)⟩))
  | true =>
    refine run_ret1 100 #[.agg (rowL 9 (cC p.n)).toArray] (some 11) (.bool true) (by kernel_rfl) (fun w1 k1 h1 => (by have h := coursePossible_any p.n w1; rw [hd1] at h; exact h)) ?_
    refine run_auto [(12, .bool false)] 9 [false] [1, 0] [2] [0] (st' := ⟨[(2, pA b2)], [(b2, cO (rowL 9 (cC p.n)) 77)]⟩) (acc := [(pA b2, pA b2), (.pointer (some ⟨(β3 8), 0, none⟩), .pointer (some ⟨(β3 8), 0, none⟩)), (.bool false, .bool false), (.bool false, .bool false)]) (by kernel_rfl) (by kernel_rfl) ⟨rfl, rfl, rfl, rfl, trivial⟩ ?_
    refine run_end (fn := f45) rfl (Nat.le_refl _) (by kernel_rfl) [0] [.agg (rowL 9 (cC p.n)).toArray] (e := [(pA b2, pA b2)]) (by kernel_rfl) ⟨rfl, trivial⟩ (fun w1 k1 h1 => ?_)
    unfold Tru
    rw [hd1]
    exact ⟨rfl, k1.keeps (fun _ h => h)⟩

set_option maxRecDepth 100000 in
theorem lastOf_any (p : Wb) (w : World) (hp : p.In w) (hF : p.n.Fine) : Calls Tryz.prog 64 #[.agg #[.int .i64 p.ll, .int .i64 p.lh, .int .i64 p.ul, .int .i64 p.uh, .slice p.ea p.es.length p.ec]] w (Tru p.n (.agg #[.int .i64 (mC p.n p.es.length).1, .int .i64 (mC p.n p.es.length).2]) w) := by
  have hn8 : p.es.length ≤ 8 := hF.n8
  have hrd : p.n.reads < 256 := Nat.lt_of_lt_of_le (bitsP_lt _ _) (Nat.pow_le_pow_right (by omega) hn8 : 2 ^ p.es.length ≤ 2 ^ 8)
  refine calls_run (fn := f64) (c := (f64.body).getD .skip) [.agg #[.int .i64 p.ll, .int .i64 p.lh, .int .i64 p.ul, .int .i64 p.uh, .slice p.ea p.es.length p.ec]] func64 (by kernel_rfl) (fun _ => False) [] (fun _ h => by cases h) (List.Pairwise.nil) 9 (by kernel_rfl) (by simp) ?_
  refine run_auto [] 2 [] [] [0] [] (st' := ⟨[(0, .agg #[iV p.ll, iV p.lh, iV p.ul, iV p.uh, .slice p.ea p.es.length p.ec])], []⟩) (acc := []) (by kernel_rfl) (by kernel_rfl) trivial ?_
  refine run_new (aO #[iV p.ll, iV p.lh, iV p.ul, iV p.uh, .slice p.ea p.es.length p.ec] 26) (fun b1 => pA b1) (some 1) (fun _ => by kernel_rfl) (fun b1 hb1 => ?_)
  refine run_new (aO #[iV 0, iV 0] 75) (fun b2 => pA b2) (some 2) (fun _ => by kernel_rfl) (fun b2 hb2 => ?_)
  refine run_auto [] 2 [] [] [1, 2] [0, 1] (st' := ⟨[(1, pA b1), (2, pA b2)], [(b2, aO #[iV 0, iV 0] 75), (b1, aO #[iV p.ll, iV p.lh, iV p.ul, iV p.uh, .slice p.ea p.es.length p.ec] 26)]⟩) (acc := []) (by kernel_rfl) (by kernel_rfl) trivial ?_
  cases hd1 : p.n.can with
  | false =>
    refine draw 7 [{ val := fun _ => .agg #[iV p.ll, iV p.lh, iV p.ul, iV p.uh, .slice p.ea p.es.length p.ec], slots := [1], reads := [1] },
          { upd := [(3, fun _ => .deferred none)], news := [3], slots := [3] },
          { val := fun _ => .pointer (some ⟨b1, 4, none⟩), slots := [1] },
          { val := fun _ => .slice p.ea p.es.length p.ec, slots := [5], reads := [1] },
          { val := fun _ => iV (p.es.length : Int), slots := [6] },
          { reads := [3] },
          { reads := [3] }] [[], [0], [], [2], [2, 3], [0, 1, 2, 3, 4], [0, 1, 2, 3, 4, 5]] (by kernel_rfl) (by kernel_rfl) (by kernel_rfl) (by kernel_rfl) [] [3] (by kernel_rfl)
          ⟨⟨⟨⟨⟨⟨⟨trivial,
          tri_quiet (fun β => []) [0] [0] (fun β => [(pA b1, pA b1)]) (by kernel_rfl) (fun β extra => by kernel_rfl) (by kernel_rfl) (fun β => ⟨rfl, trivial⟩)⟩,
          tri_panics rfl (Nat.le_refl _) 45 (fun β => #[.agg #[iV p.ll, iV p.lh, iV p.ul, iV p.uh, .slice p.ea p.es.length p.ec]]) (pe 10) (fun β extra => by kernel_rfl) (fun β w1 k1 h1 => (by have h := needTruth_any p w1 (hp.keep (k1.keeps (fun _ h => h))) hF; unfold Tru at h; rw [hd1] at h; exact h)) (fun w1 k1 => (by unfold Tru; rw [hd1]; exact ⟨rfl, k1.keeps (fun _ h => h)⟩))⟩,
          tri_quiet (fun β => []) [] [] (fun β => []) (by kernel_rfl) (fun β extra => by kernel_rfl) (by kernel_rfl) (fun β => trivial)⟩,
          tri_quiet (fun β => []) [0] [0] (fun β => [(pA b1, pA b1)]) (by kernel_rfl) (fun β extra => by kernel_rfl) (by kernel_rfl) (fun β => ⟨rfl, trivial⟩)⟩,
          tri_quiet (fun β => []) [] [] (fun β => []) (by kernel_rfl) (fun β extra => by kernel_rfl) (by kernel_rfl) (fun β => trivial)⟩,
          tri_void (fun β => ⟨β 3, [], by kernel_rfl⟩)⟩,
          tri_void (fun β => ⟨β 3, [], by kernel_rfl⟩)⟩
          (fun β => ⟨[], [(β 3, .deferred none)]⟩) (fun β => by kernel_rfl) (fun β3 => run_void)
  | true =>
    refine draw 7 [{ val := fun _ => .agg #[iV p.ll, iV p.lh, iV p.ul, iV p.uh, .slice p.ea p.es.length p.ec], slots := [1], reads := [1] },
          { val := fun _ => .agg (rowL 9 (cC p.n)).toArray, slots := [3] },
          { val := fun _ => .pointer (some ⟨b1, 4, none⟩), slots := [1] },
          { val := fun _ => .slice p.ea p.es.length p.ec, slots := [5], reads := [1] },
          { val := fun _ => iV (p.es.length : Int), slots := [6] },
          { val := fun _ => .agg #[iV (mC p.n p.es.length).1, iV (mC p.n p.es.length).2], slots := [4, 7] },
          { upd := [(0, fun l => aO #[iV (mC p.n p.es.length).1, iV (mC p.n p.es.length).2] 75)], slots := [2, 8], reads := [0] }] [[], [0], [], [2], [2, 3], [0, 1, 2, 3, 4], [0, 1, 2, 3, 4, 5]] (by kernel_rfl) (by kernel_rfl) (by kernel_rfl) (by kernel_rfl) [2] [0] (by kernel_rfl)
          ⟨⟨⟨⟨⟨⟨⟨trivial,
          tri_quiet (fun β => []) [0] [0] (fun β => [(pA b1, pA b1)]) (by kernel_rfl) (fun β extra => by kernel_rfl) (by kernel_rfl) (fun β => ⟨rfl, trivial⟩)⟩,
          tri_call 45 (fun β => #[.agg #[iV p.ll, iV p.lh, iV p.ul, iV p.uh, .slice p.ea p.es.length p.ec]]) (by kernel_rfl) (fun β extra => by kernel_rfl) (fun β => by kernel_rfl) (fun β w1 k1 h1 => (by have h := needTruth_any p w1 (hp.keep (k1.keeps (fun _ h => h))) hF; unfold Tru at h; rw [hd1] at h; exact h))⟩,
          tri_quiet (fun β => []) [] [] (fun β => []) (by kernel_rfl) (fun β extra => by kernel_rfl) (by kernel_rfl) (fun β => trivial)⟩,
          tri_quiet (fun β => []) [0] [0] (fun β => [(pA b1, pA b1)]) (by kernel_rfl) (fun β extra => by kernel_rfl) (by kernel_rfl) (fun β => ⟨rfl, trivial⟩)⟩,
          tri_quiet (fun β => []) [] [] (fun β => []) (by kernel_rfl) (fun β extra => by kernel_rfl) (by kernel_rfl) (fun β => trivial)⟩,
          tri_v (fun β => (Instr.index 77 (.agg (rowL 9 (cC p.n)).toArray) (iV (p.es.length : Int)) >>= fun v => pure (Next.value v))) (by kernel_rfl) (fun β extra => by kernel_rfl) (fun β => by kernel_rfl) (fun β w1 k1 h1 => index_rowS (e := 75) (n := 2) (len := 9) (i := p.es.length) (by kernel_rfl) (by kernel_rfl) (by kernel_rfl) (fun _ _ => rfl) (by omega) .i64 w1)⟩,
          tri_quiet (fun β => []) [0] [0] (fun β => [(pA b2, pA b2)]) (by kernel_rfl) (fun β extra => by kernel_rfl) (by kernel_rfl) (fun β => ⟨rfl, trivial⟩)⟩
          (fun β => ⟨[(2, pA b2)], [(b2, aO #[iV (mC p.n p.es.length).1, iV (mC p.n p.es.length).2] 75)]⟩) (fun β => by kernel_rfl) (fun β3 => ?_)
    refine run_end (fn := f64) rfl (Nat.le_refl _) (by kernel_rfl) [0] [.agg #[iV (mC p.n p.es.length).1, iV (mC p.n p.es.length).2]] (e := [(pA b2, pA b2)]) (by kernel_rfl) ⟨rfl, trivial⟩ (fun w1 k1 h1 => ?_)
    unfold Tru
    rw [hd1]
    exact ⟨rfl, k1.keeps (fun _ h => h)⟩


def belS (w : Wn) (m : Int) (n : Nat) : Nat := bitsP (fun i => decide ((mC w (i + 1)).2 < m)) n
def belP (w : Wn) (m : Int) (n : Nat) : Nat := bitsP (fun i => decide ((mC w (i + 1)).1 < m)) n
set_option maxRecDepth 100000 in
theorem below_surely (n : Wn) (m : Int) (N : Nat) (w : World) (hN : N ≤ 8) : Calls Tryz.prog 56 #[.agg (rowL 9 (cC n)).toArray, .int .i64 m, .int .i64 (N : Int), .func (.func 57) #[] #[]] w (RetI (belS n m N : Nat) w) := by
  refine calls_run (fn := f56) (c := (f56.body).getD .skip) [.agg (rowL 9 (cC n)).toArray, .int .i64 m, .int .i64 (N : Int), .func (.func 57) #[] #[]] func56 (by kernel_rfl) (fun _ => False) [] (fun _ h => by cases h) (List.Pairwise.nil) 27 (by kernel_rfl) (by simp) ?_
  refine run_auto [] 2 [] [] [0, 1, 2, 3] [] (st' := ⟨[(0, .agg (rowL 9 (cC n)).toArray), (1, iV m), (2, iV (N : Int)), (3, .func (.func 57) #[] #[])], []⟩) (acc := []) (by kernel_rfl) (by kernel_rfl) trivial ?_
  refine run_new (cO (rowL 9 (cC n)) 77) (fun b1 => pA b1) (some 4) (fun _ => by kernel_rfl) (fun b1 hb1 => ?_)
  refine run_auto [] 13 [] [] [1, 3, 4, 8, 9, 11, 12] [0] (st' := ⟨[(1, iV m), (3, .func (.func 57) #[] #[]), (4, pA b1), (8, iV 0), (9, iV 0), (11, iV (N : Int)), (12, iV 0)], [(b1, cO (rowL 9 (cC n)) 77)]⟩) (acc := []) (by kernel_rfl) (by kernel_rfl) trivial ?_
  refine run_auto [] 0 [] [] [1, 3, 4, 8, 9, 11, 12] [0] (st' := ⟨[(1, iV m), (3, .func (.func 57) #[] #[]), (4, pA b1), (8, iV 0), (9, iV 0), (11, iV (N : Int)), (12, iV 0)], [(b1, cO (rowL 9 (cC n)) 77)]⟩) (acc := []) (by kernel_rfl) (by kernel_rfl) trivial ?_
  refine run_loop (S := fun (i : Nat) => ⟨[(1, iV m), (3, .func (.func 57) #[] #[]), (4, pA b1), (8, iV 0), (9, iV ((bitsP (fun i => decide ((mC n (i + 1)).2 < m)) i : Nat) : Int)), (11, iV (N : Int)), (12, iV (i : Int))], [(b1, cO (rowL 9 (cC n)) 77)]⟩) (fun i => i ≤ N) (fun i => N - i) (0) (by kernel_rfl) (Nat.zero_le _) (by kernel_rfl) (fun i hI0 J0 hJ0 => ?_)
  have hbl := bitsP_lt (fun i => decide ((mC n (i + 1)).2 < m)) i
  have hb8 : 2 ^ i ≤ 256 := (Nat.pow_le_pow_right (by omega) (show i ≤ 8 by omega) : 2 ^ i ≤ 2 ^ 8)
  cases hd1 : (decide ((i : Int) < (N : Int))) with
  | false =>
    have hp1 := of_decide_eq_false hd1
    refine run_auto [(13, .bool false)] 12 [false] [] [8] [] (st' := ⟨[(8, iV ((bitsP (fun i => decide ((mC n (i + 1)).2 < m)) i : Nat) : Int))], []⟩) (acc := [(.bool false, .bool false), (.bool (decide ((i : Int) < (N : Int))), .bool false)]) (by kernel_rfl) (by kernel_rfl) ⟨rfl, (bo hd1), trivial⟩ ?_
    refine run_end (fn := f56) rfl (Nat.le_refl _) (by kernel_rfl) [] [iV ((bitsP (fun i => decide ((mC n (i + 1)).2 < m)) i : Nat) : Int)] (e := []) (by kernel_rfl) trivial (fun w1 k1 h1 => ?_)
    exact ⟨by rw [show i = N by omega]; rfl, k1.keeps (fun _ h => h)⟩
  | true =>
    have hp1 := of_decide_eq_true hd1
    refine run_auto [(13, .bool true), (17, iV ((i + 1 : Nat) : Int))] 19 [true] [] [1, 3, 4, 8, 9, 11, 12, 10, 15, 17] [0] (st' := ⟨[(1, iV m), (3, .func (.func 57) #[] #[]), (4, pA b1), (8, iV 0), (9, iV ((bitsP (fun i => decide ((mC n (i + 1)).2 < m)) i : Nat) : Int)), (11, iV (N : Int)), (12, iV (i : Int)), (10, iV (i : Int)), (15, .func (.func 57) #[] #[]), (17, iV ((i + 1 : Nat) : Int))], [(b1, cO (rowL 9 (cC n)) 77)]⟩) (acc := [(iV (IntKind.i64.wrap ((i : Int) + 1)), iV ((i + 1 : Nat) : Int)), (.bool true, .bool true), (.bool (decide ((i : Int) < (N : Int))), .bool true)]) (by kernel_rfl) (by kernel_rfl) ⟨(wr (by omega) (by omega)), rfl, (bo hd1), trivial⟩ ?_
    refine run_v (Instr.indexAt 77 (pA b1) (iV ((i + 1 : Nat) : Int)) >>= fun v => pure (Next.value v)) (some 18) (.pointer (some ⟨b1, (i + 1 : Nat) * 2, none⟩)) (by kernel_rfl) (fun w1 k1 h1 => idxA_run (e := 75) (n := 2) (len := 9) (by kernel_rfl) (by kernel_rfl) b1 (0) .i64 (i + 1 : Nat) (by omega) ((i + 1 : Nat) * 2) (by omega) w1) ?_
    refine run_v (Instr.loadAt 75 (.pointer (some ⟨b1, (i + 1 : Nat) * 2, none⟩)) >>= fun v => pure (Next.value v)) (some 19) (.agg #[iV ((mC n (i + 1 : Nat)).1), iV ((mC n (i + 1 : Nat)).2)]) (by kernel_rfl) (fun w1 k1 h1 => load_own (e := 77) (fr := (0, 0)) (c := rowL 9 (cC n)) h1 (List.mem_of_getElem? (i := 0) (by kernel_rfl)) (row_loadS (n := 2) (i := (i + 1 : Nat)) (by kernel_rfl) (by kernel_rfl) (fun _ _ => rfl) (by omega))) ?_
    refine run_auto [] 1 [] [] [1, 3, 4, 8, 9, 11, 12, 10, 15, 19, 20] [0] (st' := ⟨[(1, iV m), (3, .func (.func 57) #[] #[]), (4, pA b1), (8, iV 0), (9, iV ((bitsP (fun i => decide ((mC n (i + 1)).2 < m)) i : Nat) : Int)), (11, iV (N : Int)), (12, iV (i : Int)), (10, iV (i : Int)), (15, .func (.func 57) #[] #[]), (19, .agg #[iV ((mC n (i + 1 : Nat)).1), iV ((mC n (i + 1 : Nat)).2)]), (20, iV m)], [(b1, cO (rowL 9 (cC n)) 77)]⟩) (acc := []) (by kernel_rfl) (by kernel_rfl) trivial ?_
    cases hd2 : (decide (((mC n (i + 1 : Nat)).2) < m)) with
    | false =>
      have hp2 := of_decide_eq_false hd2
      refine run_ret1 57 #[.agg #[iV ((mC n (i + 1 : Nat)).1), iV ((mC n (i + 1 : Nat)).2)], iV m] (some 21) (.bool false) (by kernel_rfl) (fun w1 k1 h1 => (by have h := sbelow_any ((mC n (i + 1 : Nat)).1) ((mC n (i + 1 : Nat)).2) m w1; rw [hd2] at h; exact h)) ?_
      refine run_auto [(25, iV ((i + 1 : Nat) : Int))] 8 [false] [] [1, 3, 4, 8, 9, 11, 12] [0] (st' := ⟨[(1, iV m), (3, .func (.func 57) #[] #[]), (4, pA b1), (8, iV 0), (9, iV ((bitsP (fun i => decide ((mC n (i + 1)).2 < m)) i : Nat) : Int)), (11, iV (N : Int)), (12, iV ((i + 1 : Nat) : Int))], [(b1, cO (rowL 9 (cC n)) 77)]⟩) (acc := [(iV (IntKind.i64.wrap ((i : Int) + 1)), iV ((i + 1 : Nat) : Int)), (.bool false, .bool false)]) (by kernel_rfl) (by kernel_rfl) ⟨(wr (by omega) (by omega)), rfl, trivial⟩ ?_
      have hj := hJ0 (i + 1) (by omega) (by omega)
      rw [bitsP_next, show decide ((mC n (i + 1)).2 < m) = false from hd2] at hj
      simp only [cond_false] at hj
      exact run_round (by kernel_rfl) hj
    | true =>
      have hp2 := of_decide_eq_true hd2
      refine run_ret1 57 #[.agg #[iV ((mC n (i + 1 : Nat)).1), iV ((mC n (i + 1 : Nat)).2)], iV m] (some 21) (.bool true) (by kernel_rfl) (fun w1 k1 h1 => (by have h := sbelow_any ((mC n (i + 1 : Nat)).1) ((mC n (i + 1 : Nat)).2) m w1; rw [hd2] at h; exact h)) ?_
      refine run_auto [] 5 [true] [] [1, 3, 4, 8, 9, 11, 12, 22, 23] [0] (st' := ⟨[(1, iV m), (3, .func (.func 57) #[] #[]), (4, pA b1), (8, iV 0), (9, iV ((bitsP (fun i => decide ((mC n (i + 1)).2 < m)) i : Nat) : Int)), (11, iV (N : Int)), (12, iV (i : Int)), (22, iV ((bitsP (fun i => decide ((mC n (i + 1)).2 < m)) i : Nat) : Int)), (23, iV (i : Int))], [(b1, cO (rowL 9 (cC n)) 77)]⟩) (acc := [(.bool true, .bool true)]) (by kernel_rfl) (by kernel_rfl) ⟨rfl, trivial⟩ ?_
      refine run_ret1 108 #[iV ((bitsP (fun i => decide ((mC n (i + 1)).2 < m)) i : Nat) : Int), iV (i : Int)] (some 24) (iV (((bitsP (fun i => decide ((mC n (i + 1)).2 < m)) i : Nat) ||| (1 <<< i) : Nat) : Int)) (by kernel_rfl) (fun w1 k1 h1 => with_any (bitsP (fun i => decide ((mC n (i + 1)).2 < m)) i : Nat) i (by omega) (by omega) w1) ?_
      refine run_auto [(25, iV ((i + 1 : Nat) : Int))] 7 [] [] [1, 3, 4, 8, 9, 11, 12] [0] (st' := ⟨[(1, iV m), (3, .func (.func 57) #[] #[]), (4, pA b1), (8, iV 0), (9, iV (((bitsP (fun i => decide ((mC n (i + 1)).2 < m)) i : Nat) ||| (1 <<< i) : Nat) : Int)), (11, iV (N : Int)), (12, iV ((i + 1 : Nat) : Int))], [(b1, cO (rowL 9 (cC n)) 77)]⟩) (acc := [(iV (IntKind.i64.wrap ((i : Int) + 1)), iV ((i + 1 : Nat) : Int))]) (by kernel_rfl) (by kernel_rfl) ⟨(wr (by omega) (by omega)), trivial⟩ ?_
      have hj := hJ0 (i + 1) (by omega) (by omega)
      rw [bitsP_next, show decide ((mC n (i + 1)).2 < m) = true from hd2] at hj
      simp only [cond_true] at hj
      exact run_round (by kernel_rfl) hj

set_option maxRecDepth 100000 in
theorem below_perhaps (n : Wn) (m : Int) (N : Nat) (w : World) (hN : N ≤ 8) : Calls Tryz.prog 56 #[.agg (rowL 9 (cC n)).toArray, .int .i64 m, .int .i64 (N : Int), .func (.func 58) #[] #[]] w (RetI (belP n m N : Nat) w) := by
  refine calls_run (fn := f56) (c := (f56.body).getD .skip) [.agg (rowL 9 (cC n)).toArray, .int .i64 m, .int .i64 (N : Int), .func (.func 58) #[] #[]] func56 (by kernel_rfl) (fun _ => False) [] (fun _ h => by cases h) (List.Pairwise.nil) 27 (by kernel_rfl) (by simp) ?_
  refine run_auto [] 2 [] [] [0, 1, 2, 3] [] (st' := ⟨[(0, .agg (rowL 9 (cC n)).toArray), (1, iV m), (2, iV (N : Int)), (3, .func (.func 58) #[] #[])], []⟩) (acc := []) (by kernel_rfl) (by kernel_rfl) trivial ?_
  refine run_new (cO (rowL 9 (cC n)) 77) (fun b1 => pA b1) (some 4) (fun _ => by kernel_rfl) (fun b1 hb1 => ?_)
  refine run_auto [] 13 [] [] [1, 3, 4, 8, 9, 11, 12] [0] (st' := ⟨[(1, iV m), (3, .func (.func 58) #[] #[]), (4, pA b1), (8, iV 0), (9, iV 0), (11, iV (N : Int)), (12, iV 0)], [(b1, cO (rowL 9 (cC n)) 77)]⟩) (acc := []) (by kernel_rfl) (by kernel_rfl) trivial ?_
  refine run_auto [] 0 [] [] [1, 3, 4, 8, 9, 11, 12] [0] (st' := ⟨[(1, iV m), (3, .func (.func 58) #[] #[]), (4, pA b1), (8, iV 0), (9, iV 0), (11, iV (N : Int)), (12, iV 0)], [(b1, cO (rowL 9 (cC n)) 77)]⟩) (acc := []) (by kernel_rfl) (by kernel_rfl) trivial ?_
  refine run_loop (S := fun (i : Nat) => ⟨[(1, iV m), (3, .func (.func 58) #[] #[]), (4, pA b1), (8, iV 0), (9, iV ((bitsP (fun i => decide ((mC n (i + 1)).1 < m)) i : Nat) : Int)), (11, iV (N : Int)), (12, iV (i : Int))], [(b1, cO (rowL 9 (cC n)) 77)]⟩) (fun i => i ≤ N) (fun i => N - i) (0) (by kernel_rfl) (Nat.zero_le _) (by kernel_rfl) (fun i hI0 J0 hJ0 => ?_)
  have hbl := bitsP_lt (fun i => decide ((mC n (i + 1)).1 < m)) i
  have hb8 : 2 ^ i ≤ 256 := (Nat.pow_le_pow_right (by omega) (show i ≤ 8 by omega) : 2 ^ i ≤ 2 ^ 8)
  cases hd1 : (decide ((i : Int) < (N : Int))) with
  | false =>
    have hp1 := of_decide_eq_false hd1
    refine run_auto [(13, .bool false)] 12 [false] [] [8] [] (st' := ⟨[(8, iV ((bitsP (fun i => decide ((mC n (i + 1)).1 < m)) i : Nat) : Int))], []⟩) (acc := [(.bool false, .bool false), (.bool (decide ((i : Int) < (N : Int))), .bool false)]) (by kernel_rfl) (by kernel_rfl) ⟨rfl, (bo hd1), trivial⟩ ?_
    refine run_end (fn := f56) rfl (Nat.le_refl _) (by kernel_rfl) [] [iV ((bitsP (fun i => decide ((mC n (i + 1)).1 < m)) i : Nat) : Int)] (e := []) (by kernel_rfl) trivial (fun w1 k1 h1 => ?_)
    exact ⟨by rw [show i = N by omega]; rfl, k1.keeps (fun _ h => h)⟩
  | true =>
    have hp1 := of_decide_eq_true hd1
    refine run_auto [(13, .bool true), (17, iV ((i + 1 : Nat) : Int))] 19 [true] [] [1, 3, 4, 8, 9, 11, 12, 10, 15, 17] [0] (st' := ⟨[(1, iV m), (3, .func (.func 58) #[] #[]), (4, pA b1), (8, iV 0), (9, iV ((bitsP (fun i => decide ((mC n (i + 1)).1 < m)) i : Nat) : Int)), (11, iV (N : Int)), (12, iV (i : Int)), (10, iV (i : Int)), (15, .func (.func 58) #[] #[]), (17, iV ((i + 1 : Nat) : Int))], [(b1, cO (rowL 9 (cC n)) 77)]⟩) (acc := [(iV (IntKind.i64.wrap ((i : Int) + 1)), iV ((i + 1 : Nat) : Int)), (.bool true, .bool true), (.bool (decide ((i : Int) < (N : Int))), .bool true)]) (by kernel_rfl) (by kernel_rfl) ⟨(wr (by omega) (by omega)), rfl, (bo hd1), trivial⟩ ?_
    refine run_v (Instr.indexAt 77 (pA b1) (iV ((i + 1 : Nat) : Int)) >>= fun v => pure (Next.value v)) (some 18) (.pointer (some ⟨b1, (i + 1 : Nat) * 2, none⟩)) (by kernel_rfl) (fun w1 k1 h1 => idxA_run (e := 75) (n := 2) (len := 9) (by kernel_rfl) (by kernel_rfl) b1 (0) .i64 (i + 1 : Nat) (by omega) ((i + 1 : Nat) * 2) (by omega) w1) ?_
    refine run_v (Instr.loadAt 75 (.pointer (some ⟨b1, (i + 1 : Nat) * 2, none⟩)) >>= fun v => pure (Next.value v)) (some 19) (.agg #[iV ((mC n (i + 1 : Nat)).1), iV ((mC n (i + 1 : Nat)).2)]) (by kernel_rfl) (fun w1 k1 h1 => load_own (e := 77) (fr := (0, 0)) (c := rowL 9 (cC n)) h1 (List.mem_of_getElem? (i := 0) (by kernel_rfl)) (row_loadS (n := 2) (i := (i + 1 : Nat)) (by kernel_rfl) (by kernel_rfl) (fun _ _ => rfl) (by omega))) ?_
    refine run_auto [] 1 [] [] [1, 3, 4, 8, 9, 11, 12, 10, 15, 19, 20] [0] (st' := ⟨[(1, iV m), (3, .func (.func 58) #[] #[]), (4, pA b1), (8, iV 0), (9, iV ((bitsP (fun i => decide ((mC n (i + 1)).1 < m)) i : Nat) : Int)), (11, iV (N : Int)), (12, iV (i : Int)), (10, iV (i : Int)), (15, .func (.func 58) #[] #[]), (19, .agg #[iV ((mC n (i + 1 : Nat)).1), iV ((mC n (i + 1 : Nat)).2)]), (20, iV m)], [(b1, cO (rowL 9 (cC n)) 77)]⟩) (acc := []) (by kernel_rfl) (by kernel_rfl) trivial ?_
    cases hd2 : (decide (((mC n (i + 1 : Nat)).1) < m)) with
    | false =>
      have hp2 := of_decide_eq_false hd2
      refine run_ret1 58 #[.agg #[iV ((mC n (i + 1 : Nat)).1), iV ((mC n (i + 1 : Nat)).2)], iV m] (some 21) (.bool false) (by kernel_rfl) (fun w1 k1 h1 => (by have h := pbelow_any ((mC n (i + 1 : Nat)).1) ((mC n (i + 1 : Nat)).2) m w1; rw [hd2] at h; exact h)) ?_
      refine run_auto [(25, iV ((i + 1 : Nat) : Int))] 8 [false] [] [1, 3, 4, 8, 9, 11, 12] [0] (st' := ⟨[(1, iV m), (3, .func (.func 58) #[] #[]), (4, pA b1), (8, iV 0), (9, iV ((bitsP (fun i => decide ((mC n (i + 1)).1 < m)) i : Nat) : Int)), (11, iV (N : Int)), (12, iV ((i + 1 : Nat) : Int))], [(b1, cO (rowL 9 (cC n)) 77)]⟩) (acc := [(iV (IntKind.i64.wrap ((i : Int) + 1)), iV ((i + 1 : Nat) : Int)), (.bool false, .bool false)]) (by kernel_rfl) (by kernel_rfl) ⟨(wr (by omega) (by omega)), rfl, trivial⟩ ?_
      have hj := hJ0 (i + 1) (by omega) (by omega)
      rw [bitsP_next, show decide ((mC n (i + 1)).1 < m) = false from hd2] at hj
      simp only [cond_false] at hj
      exact run_round (by kernel_rfl) hj
    | true =>
      have hp2 := of_decide_eq_true hd2
      refine run_ret1 58 #[.agg #[iV ((mC n (i + 1 : Nat)).1), iV ((mC n (i + 1 : Nat)).2)], iV m] (some 21) (.bool true) (by kernel_rfl) (fun w1 k1 h1 => (by have h := pbelow_any ((mC n (i + 1 : Nat)).1) ((mC n (i + 1 : Nat)).2) m w1; rw [hd2] at h; exact h)) ?_
      refine run_auto [] 5 [true] [] [1, 3, 4, 8, 9, 11, 12, 22, 23] [0] (st' := ⟨[(1, iV m), (3, .func (.func 58) #[] #[]), (4, pA b1), (8, iV 0), (9, iV ((bitsP (fun i => decide ((mC n (i + 1)).1 < m)) i : Nat) : Int)), (11, iV (N : Int)), (12, iV (i : Int)), (22, iV ((bitsP (fun i => decide ((mC n (i + 1)).1 < m)) i : Nat) : Int)), (23, iV (i : Int))], [(b1, cO (rowL 9 (cC n)) 77)]⟩) (acc := [(.bool true, .bool true)]) (by kernel_rfl) (by kernel_rfl) ⟨rfl, trivial⟩ ?_
      refine run_ret1 108 #[iV ((bitsP (fun i => decide ((mC n (i + 1)).1 < m)) i : Nat) : Int), iV (i : Int)] (some 24) (iV (((bitsP (fun i => decide ((mC n (i + 1)).1 < m)) i : Nat) ||| (1 <<< i) : Nat) : Int)) (by kernel_rfl) (fun w1 k1 h1 => with_any (bitsP (fun i => decide ((mC n (i + 1)).1 < m)) i : Nat) i (by omega) (by omega) w1) ?_
      refine run_auto [(25, iV ((i + 1 : Nat) : Int))] 7 [] [] [1, 3, 4, 8, 9, 11, 12] [0] (st' := ⟨[(1, iV m), (3, .func (.func 58) #[] #[]), (4, pA b1), (8, iV 0), (9, iV (((bitsP (fun i => decide ((mC n (i + 1)).1 < m)) i : Nat) ||| (1 <<< i) : Nat) : Int)), (11, iV (N : Int)), (12, iV ((i + 1 : Nat) : Int))], [(b1, cO (rowL 9 (cC n)) 77)]⟩) (acc := [(iV (IntKind.i64.wrap ((i : Int) + 1)), iV ((i + 1 : Nat) : Int))]) (by kernel_rfl) (by kernel_rfl) ⟨(wr (by omega) (by omega)), trivial⟩ ?_
      have hj := hJ0 (i + 1) (by omega) (by omega)
      rw [bitsP_next, show decide ((mC n (i + 1)).1 < m) = true from hd2] at hj
      simp only [cond_true] at hj
      exact run_round (by kernel_rfl) hj

end Go.Proofs.YtdehgplklgfcdaaGreat

namespace Go.Proofs.YtdehgplklgfcdaaGreat
open Go.RowKit Go.Proofs.Tryz


theorem spV_len (x : Sp) : (spV x).length = 2 := rfl
theorem spV_one (x : Sp) : ∀ u ∈ spV x, u.oneCell' = true := by
  intro u hu
  simp only [spV, List.mem_cons, List.not_mem_nil, or_false] at hu
  rcases hu with rfl | rfl <;> rfl
def elS (L : List Sp) (i : Nat) : Sp := L[i]?.getD (0, 0)
theorem spV_at {L : List Sp} {i : Nat} (h : i < L.length) : spV L[i] = spV (elS L i) := by unfold elS; rw [List.getElem?_eq_getElem h]; rfl
theorem fwd_stuck {u : Sp} {e : Ev} (h : EvOk u e) {k : Sp} (hk : possS k = false) : possS (fwdE u e k) = false := by
  cases hb : possS (fwdE u e k) with
  | false => rfl
  | true =>
    obtain ⟨y, hy⟩ := poss_iff.1 hb
    obtain ⟨x, hx, _⟩ := (fwd_in h).1 hy
    have := poss_iff.2 ⟨x, hx⟩
    rw [hk] at this
    cases this
theorem FW_stuck {u l : Sp} {es : List Ev} (h : ∀ e ∈ es, EvOk u e) {i : Nat} (hi : possS (FW u l es i) = false) : ∀ d, i + d ≤ es.length → possS (FW u l es (i + d)) = false
  | 0, _ => hi
  | d + 1, hd => by
    rw [show i + (d + 1) = i + d + 1 by omega, FW_next u l (by omega)]
    exact fwd_stuck (h _ (elE_mem (by omega))) (FW_stuck h hi d (by omega))
theorem lost_no {w : Wn} (h : w.Fine) {a : Int} {i : Nat} (hi : i < w.es.length) (hb : possS (fwdE w.u (elE w.es i) (FW w.u (a, a) w.es i)) = false) : possS (w.lost1 a) = false := by
  rw [← FW_next w.u (a, a) hi] at hb
  have := FW_stuck h.ok_.ev hb (w.es.length - (i + 1)) (by omega)
  rw [show i + 1 + (w.es.length - (i + 1)) = w.es.length by omega] at this
  exact this
/-- What is lost, of each of the first lengths that there can be. -/
def lostK (w : Wn) (t : Nat) : List Sp := (List.range t).filterMap fun (i : Nat) => bif possS (w.lost1 (w.l.1 + (i : Int))) then some (w.l.1 + (i : Int) - (w.lost1 (w.l.1 + (i : Int))).2, w.l.1 + (i : Int) - (w.lost1 (w.l.1 + (i : Int))).1) else none
def Wn.nl (w : Wn) : Nat := (w.l.2 - w.l.1 + 1).toNat
theorem lostK_no {w : Wn} {t : Nat} {a : Int} (ha : w.l.1 + (t : Int) = a) (h : possS (w.lost1 a) = false) : lostK w (t + 1) = lostK w t := by
  unfold lostK
  rw [List.range_succ, List.filterMap_append, List.filterMap_cons_none (by rw [ha, h]; rfl)]
  simp
theorem lostK_yes {w : Wn} {t : Nat} {a : Int} (ha : w.l.1 + (t : Int) = a) (h : possS (w.lost1 a) = true) : lostK w (t + 1) = lostK w t ++ [(a - (w.lost1 a).2, a - (w.lost1 a).1)] := by
  unfold lostK
  rw [List.range_succ, List.filterMap_append, List.filterMap_cons_some (b := (a - (w.lost1 a).2, a - (w.lost1 a).1)) (by rw [ha, h]; rfl)]
  rfl
def joinK (L : List Sp) (j : Nat) : Sp := ((L.drop 1).take j).foldl joiS (elS L 0)
theorem joinK_next {L : List Sp} {j : Nat} (h : j + 1 < L.length) : joinK L (j + 1) = joiS (joinK L j) (elS L (j + 1)) := by
  unfold joinK
  rw [List.take_succ_eq_append_getElem (by rw [List.length_drop]; omega), List.foldl_append]
  show joiS _ _ = _
  congr 1
  unfold elS
  rw [List.getElem_drop, List.getElem?_eq_getElem h, Option.getD_some]
  congr 1
  omega
/-- What a block has lost. -/
def Wn.lost (w : Wn) : Sp := joinK (lostK w w.nl) ((lostK w w.nl).length - 1)
theorem lostK_mem {w : Wn} {t : Nat} {x : Sp} : x ∈ lostK w t ↔ ∃ i, i < t ∧ possS (w.lost1 (w.l.1 + (i : Int))) = true ∧ x = (w.l.1 + (i : Int) - (w.lost1 (w.l.1 + (i : Int))).2, w.l.1 + (i : Int) - (w.lost1 (w.l.1 + (i : Int))).1) := by
  unfold lostK
  rw [List.mem_filterMap]
  constructor
  · rintro ⟨i, hi, h⟩
    cases hb : possS (w.lost1 (w.l.1 + (i : Int))) with
    | false => rw [hb] at h; cases h
    | true =>
      rw [hb] at h
      injection h with h
      exact ⟨i, List.mem_range.1 hi, hb, h.symm⟩
  · rintro ⟨i, hi, hb, rfl⟩
    exact ⟨i, List.mem_range.2 hi, by rw [hb]; rfl⟩
theorem lostK_some {w : Wn} (h : w.Fine) (hc : w.can = true) : lostK w w.nl ≠ [] := by
  obtain ⟨a, z, h1, h2⟩ := h.ok_.can_iff.1 hc
  have h3 := (h.ok_.lost_in a z).2 h2
  have hl := h.l
  unfold inP at h1
  have hm : _ ∈ lostK w w.nl := lostK_mem.2 ⟨(a - w.l.1).toNat, by unfold Wn.nl; omega, by rw [show w.l.1 + ((a - w.l.1).toNat : Int) = a by omega]; exact poss_iff.2 ⟨z, h3⟩, rfl⟩
  intro h0
  rw [h0] at hm
  cases hm
theorem lost_bd {w : Wn} (h : w.Fine) {a : Int} (h1 : 0 ≤ a) (h2 : a ≤ 300) {i : Nat} (hi : i ≤ w.es.length) : bdS (FW w.u (a, a) w.es i) 2000 := by
  have h3 := FW_bd h.u h.ev (l := (a, a)) (by unfold bdS; dsimp only; omega) i hi
  have h8 := h.n8
  unfold bdS at h3 ⊢
  omega

theorem cut_one {g cap : Nat} (h : 1 < cap) : some (cutA g 0 1 cap 2) = some (⟨g, 2, none⟩ : Addr) := by
  unfold cutA
  simp
  omega
set_option maxRecDepth 100000 in
theorem lostBy_any (p : Wb) (w : World) (hp : p.In w) (hF : p.n.Fine) (hcan : p.n.can = true) : Calls Tryz.prog 50 #[.agg #[.int .i64 p.ll, .int .i64 p.lh, .int .i64 p.ul, .int .i64 p.uh, .slice p.ea p.es.length p.ec]] w (Ret (.agg #[.int .i64 p.n.lost.1, .int .i64 p.n.lost.2]) w) := by
  have hn8 : p.es.length ≤ 8 := hF.n8
  have hl0 : 0 ≤ p.ll ∧ p.ll ≤ p.lh ∧ p.lh ≤ 300 := hF.l
  have hlw : p.lh - p.ll ≤ 20 := hF.lw
  refine calls_run (fn := f50) (c := (f50.body).getD .skip) [.agg #[.int .i64 p.ll, .int .i64 p.lh, .int .i64 p.ul, .int .i64 p.uh, .slice p.ea p.es.length p.ec]] func50 (by kernel_rfl) (fun _ => False) [] (fun _ h => by cases h) (List.Pairwise.nil) 62 (by kernel_rfl) (by simp) ?_
  refine run_auto [] 2 [] [] [0] [] (st' := ⟨[(0, .agg #[iV p.ll, iV p.lh, iV p.ul, iV p.uh, .slice p.ea p.es.length p.ec])], []⟩) (acc := []) (by kernel_rfl) (by kernel_rfl) trivial ?_
  refine run_new (aO #[iV p.ll, iV p.lh, iV p.ul, iV p.uh, .slice p.ea p.es.length p.ec] 26) (fun b1 => pA b1) (some 1) (fun _ => by kernel_rfl) (fun b1 hb1 => ?_)
  refine run_new (aO #[iV 0, iV 0] 23) (fun b2 => pA b2) (some 2) (fun _ => by kernel_rfl) (fun b2 hb2 => ?_)
  refine run_auto [] 1 [] [] [1, 2] [0, 1] (st' := ⟨[(1, pA b1), (2, pA b2)], [(b2, aO #[iV 0, iV 0] 23), (b1, aO #[iV p.ll, iV p.lh, iV p.ul, iV p.uh, .slice p.ea p.es.length p.ec] 26)]⟩) (acc := []) (by kernel_rfl) (by kernel_rfl) trivial ?_
  refine run_scope rfl (fun _ _ _ h => h) rfl ?_
  refine run_auto [] 15 [] [1] [1, 2, 3, 4] [0, 1] (st' := ⟨[(1, pA b1), (2, pA b2), (3, .slice none 0 0), (4, iV p.ll)], [(b2, aO #[iV 0, iV 0] 23), (b1, aO #[iV p.ll, iV p.lh, iV p.ul, iV p.uh, .slice p.ea p.es.length p.ec] 26)]⟩) (acc := [(pA b1, pA b1)]) (by kernel_rfl) (by kernel_rfl) ⟨rfl, trivial⟩ ?_
  refine run_auto [] 0 [] [] [1, 2, 3, 4] [0, 1] (st' := ⟨[(1, pA b1), (2, pA b2), (3, .slice none 0 0), (4, iV p.ll)], [(b2, aO #[iV 0, iV 0] 23), (b1, aO #[iV p.ll, iV p.lh, iV p.ul, iV p.uh, .slice p.ea p.es.length p.ec] 26)]⟩) (acc := []) (by kernel_rfl) (by kernel_rfl) trivial ?_
  refine run_loop (S := fun (v : Nat × Nat × Option (Nat × Nat × List Value)) => match v with | (t, _, none) => ⟨[(1, pA b1), (2, pA b2), (3, .slice none 0 0), (4, iV (p.ll + (t : Int)))], [(b2, aO #[iV 0, iV 0] 23), (b1, aO #[iV p.ll, iV p.lh, iV p.ul, iV p.uh, .slice p.ea p.es.length p.ec] 26)]⟩ | (t, k, some (g, cap, sp)) => ⟨[(1, pA b1), (2, pA b2), (3, sV g k cap), (4, iV (p.ll + (t : Int)))], [(g, cO ((lostK p.n t).flatMap spV ++ sp) 23), (b2, aO #[iV 0, iV 0] 23), (b1, aO #[iV p.ll, iV p.lh, iV p.ul, iV p.uh, .slice p.ea p.es.length p.ec] 26)]⟩) (fun v => v.1 ≤ p.n.nl ∧ (lostK p.n v.1).length = v.2.1 ∧ match v.2.2 with | none => v.2.1 = 0 | some (g, cap, sp) => 1 ≤ v.2.1 ∧ v.2.1 ≤ cap ∧ cap ≤ maxLen ∧ ((lostK p.n v.1).flatMap spV ++ sp).length = cap * 2 ∧ w.heap.size ≤ g) (fun v => p.n.nl - v.1) ((0, 0, none)) (by kernel_rfl) (⟨Nat.zero_le _, rfl, rfl⟩) (by simp) (fun v hI0 J0 hJ0 => ?_)
  obtain ⟨t, k, _ | ⟨g, cap, sp⟩⟩ := v
  · skip
    obtain ⟨hz1, hz2, hz3⟩ := hI0
    dsimp only at hz1 hz2 hz3
    obtain ⟨a, ha⟩ : ∃ a, p.ll + (t : Int) = a := ⟨_, rfl⟩
    dsimp only
    rw [ha]
    have ha0 : 0 ≤ a := by omega
    have hk21 : k ≤ 21 := by have h1 := List.length_filterMap_le (fun (i : Nat) => bif possS (p.n.lost1 (p.n.l.1 + (i : Int))) then some (p.n.l.1 + (i : Int) - (p.n.lost1 (p.n.l.1 + (i : Int))).2, p.n.l.1 + (i : Int) - (p.n.lost1 (p.n.l.1 + (i : Int))).1) else none) (List.range t); rw [List.length_range] at h1; have h2 : (lostK p.n t).length ≤ t := h1; have h3 : t ≤ (p.lh - p.ll + 1).toNat := hz1; omega
    have hml : (1000000 : Nat) ≤ maxLen := by simp only [maxLen]; omega
    cases hd1 : (decide (a ≤ p.lh)) with
    | false =>
      have hp1 := of_decide_eq_false hd1
      have ht : t = p.n.nl := by show t = (p.lh - p.ll + 1).toNat; have h : t ≤ (p.lh - p.ll + 1).toNat := hz1; omega
      exact absurd (List.eq_nil_of_length_eq_zero (by rw [← ht, hz2, hz3])) (lostK_some hF hcan)
    | true =>
      have hp1 := of_decide_eq_true hd1
      have ha3 : a ≤ 300 := by omega
      refine run_auto [(18, .bool true)] 16 [true] [1] [1, 2, 3, 4, 21] [0, 1] (st' := ⟨[(1, pA b1), (2, pA b2), (3, .slice none 0 0), (4, iV a), (21, iV a)], [(b2, aO #[iV 0, iV 0] 23), (b1, aO #[iV p.ll, iV p.lh, iV p.ul, iV p.uh, .slice p.ea p.es.length p.ec] 26)]⟩) (acc := [(.bool true, .bool true), (.bool (decide (a ≤ p.lh)), .bool true), (pA b1, pA b1)]) (by kernel_rfl) (by kernel_rfl) ⟨rfl, (bo hd1), rfl, trivial⟩ ?_
      refine run_ret1 102 #[iV a] (some 22) (.agg #[iV a, iV a]) (by kernel_rfl) (fun w1 k1 h1 => exactly_any a w1) ?_
      refine run_new (aO #[iV 0, iV 0] 75) (fun b3 => pA b3) (some 5) (fun _ => by kernel_rfl) (fun b3 hb3 => ?_)
      refine run_auto [] 6 [] [0, 2] [1, 2, 3, 4, 5, 23] [0, 1, 2] (st' := ⟨[(1, pA b1), (2, pA b2), (3, .slice none 0 0), (4, iV a), (5, pA b3), (23, .agg #[iV p.ll, iV p.lh, iV p.ul, iV p.uh, .slice p.ea p.es.length p.ec])], [(b3, aO #[iV a, iV a] 75), (b2, aO #[iV 0, iV 0] 23), (b1, aO #[iV p.ll, iV p.lh, iV p.ul, iV p.uh, .slice p.ea p.es.length p.ec] 26)]⟩) (acc := [(pA b1, pA b1), (pA b3, pA b3)]) (by kernel_rfl) (by kernel_rfl) ⟨rfl, rfl, trivial⟩ ?_
      refine run_nwl 103 #[.agg #[iV p.ll, iV p.lh, iV p.ul, iV p.uh, .slice p.ea p.es.length p.ec]] (some 24) (α := Nat × Nat × Nat) (fun x => .func (.func 133) #[] #[.pointer (some ⟨(x.1), 0, none⟩), .pointer (some ⟨(x.2.1), 0, none⟩)]) (fun x => [((x.1), aO #[.func (.func 135) #[] #[.pointer (some ⟨(x.2.2), 0, none⟩)]] 161), ((x.2.1), aO #[iV p.ll, iV p.lh, iV p.ul, iV p.uh, .slice p.ea p.es.length p.ec] 26), ((x.2.2), aO #[.slice p.ea p.es.length p.ec] 24)]) (fun x => True) (by kernel_rfl) (fun x p hp => by simp only [List.mem_cons, List.not_mem_nil, or_false] at hp; rcases hp with rfl | rfl | rfl <;> rfl) (fun w1 k1 h1 => onward_any p w1) (fun x hI4 hn4 => ?_)
      obtain ⟨bo4, bw4, bs4⟩ := x
      dsimp only at hI4 hn4
      have hbo4 := hn4 _ (List.mem_of_getElem? (i := 0) rfl)
      have hbw4 := hn4 _ (List.mem_of_getElem? (i := 1) rfl)
      have hbs4 := hn4 _ (List.mem_of_getElem? (i := 2) rfl)
      refine run_auto [] 2 [] [] [1, 2, 3, 4, 5, 24] [0, 1, 2, 3, 4, 5] (st' := ⟨[(1, pA b1), (2, pA b2), (3, .slice none 0 0), (4, iV a), (5, pA b3), (24, .func (.func 133) #[] #[pA bo4, pA bw4])], [(bo4, aO #[.func (.func 135) #[] #[pA bs4]] 161), (bw4, aO #[iV p.ll, iV p.lh, iV p.ul, iV p.uh, .slice p.ea p.es.length p.ec] 26), (bs4, aO #[.slice p.ea p.es.length p.ec] 24), (b3, aO #[iV a, iV a] 75), (b2, aO #[iV 0, iV 0] 23), (b1, aO #[iV p.ll, iV p.lh, iV p.ul, iV p.uh, .slice p.ea p.es.length p.ec] 26)]⟩) (acc := []) (by kernel_rfl) (by kernel_rfl) trivial ?_
      refine run_auto [] 0 [] [] [1, 2, 3, 4, 5, 24] [0, 1, 2, 3, 4, 5] (st' := ⟨[(1, pA b1), (2, pA b2), (3, .slice none 0 0), (4, iV a), (5, pA b3), (24, .func (.func 133) #[] #[pA bo4, pA bw4])], [(bo4, aO #[.func (.func 135) #[] #[pA bs4]] 161), (bw4, aO #[iV p.ll, iV p.lh, iV p.ul, iV p.uh, .slice p.ea p.es.length p.ec] 26), (bs4, aO #[.slice p.ea p.es.length p.ec] 24), (b3, aO #[iV a, iV a] 75), (b2, aO #[iV 0, iV 0] 23), (b1, aO #[iV p.ll, iV p.lh, iV p.ul, iV p.uh, .slice p.ea p.es.length p.ec] 26)]⟩) (acc := []) (by kernel_rfl) (by kernel_rfl) trivial ?_
      refine run_range (σ := Nat) (τ := Sp) 133 #[pA bo4, pA bw4] [25, 26] [(bo4, aO #[.func (.func 135) #[] #[pA bs4]] 161), (bw4, aO #[iV p.ll, iV p.lh, iV p.ul, iV p.uh, .slice p.ea p.es.length p.ec] 26), (bs4, aO #[.slice p.ea p.es.length p.ec] 24)] [(b3, aO #[iV a, iV a] 75), (b2, aO #[iV 0, iV 0] 23), (b1, aO #[iV p.ll, iV p.lh, iV p.ul, iV p.uh, .slice p.ea p.es.length p.ec] 26)] (EvsD p.es p.ea) (fun l => l <+: rgL p.es.length (evI (p.ul, p.uh) p.es)) (fun l => l = rgL p.es.length (evI (p.ul, p.uh) p.es)) (by kernel_rfl) rfl rfl (fun l => by kernel_rfl) rfl (by kernel_rfl) (fun pre x hx => by rw [(rgL_at hx).2.2]; rfl) (Gives.own (events_All p bo4 bw4 bs4 hF.n8)) (fun D w1 k1 hD => (hp.ev.evD (D := fun _ => False) (fun _ _ h => h)).kept k1 hD)
        (fun s => [(b3, aO #[iV ((FW (p.ul, p.uh) (a, a) p.es s).1), iV ((FW (p.ul, p.uh) (a, a) p.es s).2)] 75), (b2, aO #[iV 0, iV 0] 23), (b1, aO #[iV p.ll, iV p.lh, iV p.ul, iV p.uh, .slice p.ea p.es.length p.ec] 26)]) (fun s => Ext.none) (fun pre s => s = (pre).length ∧ possS (FW (p.ul, p.uh) (a, a) p.es s) = true) (fun y => [(b3, aO #[iV y.1, iV y.2] 75), (b2, aO #[iV 0, iV 0] 23), (b1, aO #[iV p.ll, iV p.lh, iV p.ul, iV p.uh, .slice p.ea p.es.length p.ec] 26)]) (fun y => Ext.none) (fun c y => c = .exit 1 ∧ possS (p.n.lost1 a) = false) (0) (⟨rfl, by show possS (a, a) = true; unfold possS; simp⟩) rfl rfl (fun _ _ _ => ⟨rfl, fun _ _ h => h.elim⟩) (fun _ _ _ => rfl)
        (fun pre x s hpre hI l0 ms ro ob w0 Jb Jn Je hkk hll hbeg hnext hexit => ?_) (fun ys s hys hI => ?_) (fun c y hI => ?_)
      · skip
        have hpre : pre ++ [x] <+: rgL p.es.length (evI (p.ul, p.uh) p.es) := hpre
        have hx := rgL_at hpre
        rw [← hI.1] at hx
        have hsn := hx.1
        obtain rfl := hx.2.2
        refine run_auto [] 3 [] [] [2, 5, 7] [0, 1, 2] (st' := ⟨[(2, pA b2), (5, pA b3), (7, evV (p.ul, p.uh) (elE p.es s))], [(b3, aO #[iV ((FW (p.ul, p.uh) (a, a) p.es s).1), iV ((FW (p.ul, p.uh) (a, a) p.es s).2)] 75), (b2, aO #[iV 0, iV 0] 23), (b1, aO #[iV p.ll, iV p.lh, iV p.ul, iV p.uh, .slice p.ea p.es.length p.ec] 26)]⟩) (acc := []) (by kernel_rfl) (by kernel_rfl) trivial ?_
        refine run_round rfl (hbeg _ ?_)
        cases hd2 : ((elE p.es s).1 == 0) with
        | false =>
          have hp2 : ¬ (elE p.es s).1 = 0 := by simpa using hd2
          cases hd3 : ((elE p.es s).1 == 2) with
          | false =>
            have hp3 : ¬ (elE p.es s).1 = 2 := by simpa using hd3
            rw [show evV (p.ul, p.uh) (elE p.es s) = .iface 175 (.agg #[iV (elE p.es s).2.2.1, iV (elE p.es s).2.2.2]) from by unfold evV; rw [hd2, hd3]; rfl]
            refine run_auto [] 5 [] [0] [2, 5, 27, 28] [0, 1, 2] (st' := ⟨[(2, pA b2), (5, pA b3), (27, .iface 175 (.agg #[iV (elE p.es s).2.2.1, iV (elE p.es s).2.2.2])), (28, .agg #[iV ((FW (p.ul, p.uh) (a, a) p.es s).1), iV ((FW (p.ul, p.uh) (a, a) p.es s).2)])], [(b3, aO #[iV ((FW (p.ul, p.uh) (a, a) p.es s).1), iV ((FW (p.ul, p.uh) (a, a) p.es s).2)] 75), (b2, aO #[iV 0, iV 0] 23), (b1, aO #[iV p.ll, iV p.lh, iV p.ul, iV p.uh, .slice p.ea p.es.length p.ec] 26)]⟩) (acc := [(pA b3, pA b3)]) (by kernel_rfl) (by kernel_rfl) ⟨rfl, trivial⟩ ?_
            refine run_ret1 162 #[.agg #[iV (elE p.es s).2.2.1, iV (elE p.es s).2.2.2], .agg #[iV ((FW (p.ul, p.uh) (a, a) p.es s).1), iV ((FW (p.ul, p.uh) (a, a) p.es s).2)]] (some 29) (.agg #[iV ((fwdE (p.ul, p.uh) (elE p.es s) (FW (p.ul, p.uh) (a, a) p.es s)).1), iV ((fwdE (p.ul, p.uh) (elE p.es s) (FW (p.ul, p.uh) (a, a) p.es s)).2)]) (by kernel_rfl) (fun w1 k1 h1 => f2_any (p.ul, p.uh) (elE p.es s) (FW (p.ul, p.uh) (a, a) p.es s) w1 hd2 hd3) ?_
            refine run_auto [] 5 [] [0, 0] [2, 30] [0, 1, 2] (st' := ⟨[(2, pA b2), (30, .agg #[iV ((fwdE (p.ul, p.uh) (elE p.es s) (FW (p.ul, p.uh) (a, a) p.es s)).1), iV ((fwdE (p.ul, p.uh) (elE p.es s) (FW (p.ul, p.uh) (a, a) p.es s)).2)])], [(b3, aO #[iV ((fwdE (p.ul, p.uh) (elE p.es s) (FW (p.ul, p.uh) (a, a) p.es s)).1), iV ((fwdE (p.ul, p.uh) (elE p.es s) (FW (p.ul, p.uh) (a, a) p.es s)).2)] 75), (b2, aO #[iV 0, iV 0] 23), (b1, aO #[iV p.ll, iV p.lh, iV p.ul, iV p.uh, .slice p.ea p.es.length p.ec] 26)]⟩) (acc := [(pA b3, pA b3), (pA b3, pA b3)]) (by kernel_rfl) (by kernel_rfl) ⟨rfl, rfl, trivial⟩ ?_
            cases hd4 : (possS (fwdE (p.ul, p.uh) (elE p.es s) (FW (p.ul, p.uh) (a, a) p.es s))) with
            | false =>
              have hno := lost_no hF (a := a) hsn hd4
              refine run_ret1 104 #[.agg #[iV ((fwdE (p.ul, p.uh) (elE p.es s) (FW (p.ul, p.uh) (a, a) p.es s)).1), iV ((fwdE (p.ul, p.uh) (elE p.es s) (FW (p.ul, p.uh) (a, a) p.es s)).2)]] (some 31) (.bool false) (by kernel_rfl) (fun w1 k1 h1 => (by have h := possible_any ((fwdE (p.ul, p.uh) (elE p.es s) (FW (p.ul, p.uh) (a, a) p.es s)).1) ((fwdE (p.ul, p.uh) (elE p.es s) (FW (p.ul, p.uh) (a, a) p.es s)).2) w1; rw [hd4] at h; exact h)) ?_
              refine run_auto [(32, .bool true)] 3 [true] [] [] [0, 1, 2] (st' := ⟨[], [(b3, aO #[iV ((fwdE (p.ul, p.uh) (elE p.es s) (FW (p.ul, p.uh) (a, a) p.es s)).1), iV ((fwdE (p.ul, p.uh) (elE p.es s) (FW (p.ul, p.uh) (a, a) p.es s)).2)] 75), (b2, aO #[iV 0, iV 0] 23), (b1, aO #[iV p.ll, iV p.lh, iV p.ul, iV p.uh, .slice p.ea p.es.length p.ec] 26)]⟩) (acc := [(.bool true, .bool true), (.bool true, .bool true)]) (by kernel_rfl) (by kernel_rfl) ⟨rfl, rfl, trivial⟩ ?_
              exact run_exitQ 1 (by kernel_rfl) (fun a_ w1 g_ => hexit (.exit 1) (fwdE (p.ul, p.uh) (elE p.es s) (FW (p.ul, p.uh) (a, a) p.es s)) _ ⟨rfl, hno⟩ (.inr ⟨1, rfl⟩) (fun b h => h.elim) a_ w1 g_)
            | true =>
              refine run_ret1 104 #[.agg #[iV ((fwdE (p.ul, p.uh) (elE p.es s) (FW (p.ul, p.uh) (a, a) p.es s)).1), iV ((fwdE (p.ul, p.uh) (elE p.es s) (FW (p.ul, p.uh) (a, a) p.es s)).2)]] (some 31) (.bool true) (by kernel_rfl) (fun w1 k1 h1 => (by have h := possible_any ((fwdE (p.ul, p.uh) (elE p.es s) (FW (p.ul, p.uh) (a, a) p.es s)).1) ((fwdE (p.ul, p.uh) (elE p.es s) (FW (p.ul, p.uh) (a, a) p.es s)).2) w1; rw [hd4] at h; exact h)) ?_
              refine run_auto [(32, .bool false)] 5 [false] [] [] [0, 1, 2] (st' := ⟨[], [(b3, aO #[iV ((fwdE (p.ul, p.uh) (elE p.es s) (FW (p.ul, p.uh) (a, a) p.es s)).1), iV ((fwdE (p.ul, p.uh) (elE p.es s) (FW (p.ul, p.uh) (a, a) p.es s)).2)] 75), (b2, aO #[iV 0, iV 0] 23), (b1, aO #[iV p.ll, iV p.lh, iV p.ul, iV p.uh, .slice p.ea p.es.length p.ec] 26)]⟩) (acc := [(.bool false, .bool false), (.bool false, .bool false)]) (by kernel_rfl) (by kernel_rfl) ⟨rfl, rfl, trivial⟩ ?_
              have hx2 : (FW (p.ul, p.uh) (a, a) p.es (s + 1)) = fwdE (p.ul, p.uh) (elE p.es s) (FW (p.ul, p.uh) (a, a) p.es s) := FW_next _ _ hsn
              exact run_nil rfl (fun a_ w1 g_ => hnext (s + 1) _ ⟨by rw [List.length_append, ← hI.1]; rfl, by rw [hx2]; exact hd4⟩ (fun b h => h.elim) a_ w1 (by rw [hx2]; exact g_))
          | true =>
            have hp3 : (elE p.es s).1 = 2 := by simpa using hd3
            rw [show evV (p.ul, p.uh) (elE p.es s) = .iface 173 (.agg #[iV (elE p.es s).2.2.1, iV (elE p.es s).2.2.2]) from by unfold evV; rw [hd2, hd3]; rfl]
            refine run_auto [] 5 [] [0] [2, 5, 27, 28] [0, 1, 2] (st' := ⟨[(2, pA b2), (5, pA b3), (27, .iface 173 (.agg #[iV (elE p.es s).2.2.1, iV (elE p.es s).2.2.2])), (28, .agg #[iV ((FW (p.ul, p.uh) (a, a) p.es s).1), iV ((FW (p.ul, p.uh) (a, a) p.es s).2)])], [(b3, aO #[iV ((FW (p.ul, p.uh) (a, a) p.es s).1), iV ((FW (p.ul, p.uh) (a, a) p.es s).2)] 75), (b2, aO #[iV 0, iV 0] 23), (b1, aO #[iV p.ll, iV p.lh, iV p.ul, iV p.uh, .slice p.ea p.es.length p.ec] 26)]⟩) (acc := [(pA b3, pA b3)]) (by kernel_rfl) (by kernel_rfl) ⟨rfl, trivial⟩ ?_
            refine run_ret1 160 #[.agg #[iV (elE p.es s).2.2.1, iV (elE p.es s).2.2.2], .agg #[iV ((FW (p.ul, p.uh) (a, a) p.es s).1), iV ((FW (p.ul, p.uh) (a, a) p.es s).2)]] (some 29) (.agg #[iV ((fwdE (p.ul, p.uh) (elE p.es s) (FW (p.ul, p.uh) (a, a) p.es s)).1), iV ((fwdE (p.ul, p.uh) (elE p.es s) (FW (p.ul, p.uh) (a, a) p.es s)).2)]) (by kernel_rfl) (fun w1 k1 h1 => f1_any (p.ul, p.uh) (elE p.es s) (FW (p.ul, p.uh) (a, a) p.es s) w1 (hF.ev _ (elE_mem hsn)) (by have h : bdS (FW (p.ul, p.uh) (a, a) p.es s) 2000 := lost_bd hF ha0 ha3 (Nat.le_of_lt hsn); unfold bdS at h ⊢; omega) hd2 hd3) ?_
            refine run_auto [] 5 [] [0, 0] [2, 30] [0, 1, 2] (st' := ⟨[(2, pA b2), (30, .agg #[iV ((fwdE (p.ul, p.uh) (elE p.es s) (FW (p.ul, p.uh) (a, a) p.es s)).1), iV ((fwdE (p.ul, p.uh) (elE p.es s) (FW (p.ul, p.uh) (a, a) p.es s)).2)])], [(b3, aO #[iV ((fwdE (p.ul, p.uh) (elE p.es s) (FW (p.ul, p.uh) (a, a) p.es s)).1), iV ((fwdE (p.ul, p.uh) (elE p.es s) (FW (p.ul, p.uh) (a, a) p.es s)).2)] 75), (b2, aO #[iV 0, iV 0] 23), (b1, aO #[iV p.ll, iV p.lh, iV p.ul, iV p.uh, .slice p.ea p.es.length p.ec] 26)]⟩) (acc := [(pA b3, pA b3), (pA b3, pA b3)]) (by kernel_rfl) (by kernel_rfl) ⟨rfl, rfl, trivial⟩ ?_
            cases hd4 : (possS (fwdE (p.ul, p.uh) (elE p.es s) (FW (p.ul, p.uh) (a, a) p.es s))) with
            | false =>
              have hno := lost_no hF (a := a) hsn hd4
              refine run_ret1 104 #[.agg #[iV ((fwdE (p.ul, p.uh) (elE p.es s) (FW (p.ul, p.uh) (a, a) p.es s)).1), iV ((fwdE (p.ul, p.uh) (elE p.es s) (FW (p.ul, p.uh) (a, a) p.es s)).2)]] (some 31) (.bool false) (by kernel_rfl) (fun w1 k1 h1 => (by have h := possible_any ((fwdE (p.ul, p.uh) (elE p.es s) (FW (p.ul, p.uh) (a, a) p.es s)).1) ((fwdE (p.ul, p.uh) (elE p.es s) (FW (p.ul, p.uh) (a, a) p.es s)).2) w1; rw [hd4] at h; exact h)) ?_
              refine run_auto [(32, .bool true)] 3 [true] [] [] [0, 1, 2] (st' := ⟨[], [(b3, aO #[iV ((fwdE (p.ul, p.uh) (elE p.es s) (FW (p.ul, p.uh) (a, a) p.es s)).1), iV ((fwdE (p.ul, p.uh) (elE p.es s) (FW (p.ul, p.uh) (a, a) p.es s)).2)] 75), (b2, aO #[iV 0, iV 0] 23), (b1, aO #[iV p.ll, iV p.lh, iV p.ul, iV p.uh, .slice p.ea p.es.length p.ec] 26)]⟩) (acc := [(.bool true, .bool true), (.bool true, .bool true)]) (by kernel_rfl) (by kernel_rfl) ⟨rfl, rfl, trivial⟩ ?_
              exact run_exitQ 1 (by kernel_rfl) (fun a_ w1 g_ => hexit (.exit 1) (fwdE (p.ul, p.uh) (elE p.es s) (FW (p.ul, p.uh) (a, a) p.es s)) _ ⟨rfl, hno⟩ (.inr ⟨1, rfl⟩) (fun b h => h.elim) a_ w1 g_)
            | true =>
              refine run_ret1 104 #[.agg #[iV ((fwdE (p.ul, p.uh) (elE p.es s) (FW (p.ul, p.uh) (a, a) p.es s)).1), iV ((fwdE (p.ul, p.uh) (elE p.es s) (FW (p.ul, p.uh) (a, a) p.es s)).2)]] (some 31) (.bool true) (by kernel_rfl) (fun w1 k1 h1 => (by have h := possible_any ((fwdE (p.ul, p.uh) (elE p.es s) (FW (p.ul, p.uh) (a, a) p.es s)).1) ((fwdE (p.ul, p.uh) (elE p.es s) (FW (p.ul, p.uh) (a, a) p.es s)).2) w1; rw [hd4] at h; exact h)) ?_
              refine run_auto [(32, .bool false)] 5 [false] [] [] [0, 1, 2] (st' := ⟨[], [(b3, aO #[iV ((fwdE (p.ul, p.uh) (elE p.es s) (FW (p.ul, p.uh) (a, a) p.es s)).1), iV ((fwdE (p.ul, p.uh) (elE p.es s) (FW (p.ul, p.uh) (a, a) p.es s)).2)] 75), (b2, aO #[iV 0, iV 0] 23), (b1, aO #[iV p.ll, iV p.lh, iV p.ul, iV p.uh, .slice p.ea p.es.length p.ec] 26)]⟩) (acc := [(.bool false, .bool false), (.bool false, .bool false)]) (by kernel_rfl) (by kernel_rfl) ⟨rfl, rfl, trivial⟩ ?_
              have hx2 : (FW (p.ul, p.uh) (a, a) p.es (s + 1)) = fwdE (p.ul, p.uh) (elE p.es s) (FW (p.ul, p.uh) (a, a) p.es s) := FW_next _ _ hsn
              exact run_nil rfl (fun a_ w1 g_ => hnext (s + 1) _ ⟨by rw [List.length_append, ← hI.1]; rfl, by rw [hx2]; exact hd4⟩ (fun b h => h.elim) a_ w1 (by rw [hx2]; exact g_))
        | true =>
          have hp2 : (elE p.es s).1 = 0 := by simpa using hd2
          rw [show evV (p.ul, p.uh) (elE p.es s) = .iface 171 (.agg #[iV (elE p.es s).2.1, iV (p.ul, p.uh).1, iV (p.ul, p.uh).2]) from by unfold evV; rw [hd2]; rfl]
          refine run_auto [] 5 [] [0] [2, 5, 27, 28] [0, 1, 2] (st' := ⟨[(2, pA b2), (5, pA b3), (27, .iface 171 (.agg #[iV (elE p.es s).2.1, iV (p.ul, p.uh).1, iV (p.ul, p.uh).2])), (28, .agg #[iV ((FW (p.ul, p.uh) (a, a) p.es s).1), iV ((FW (p.ul, p.uh) (a, a) p.es s).2)])], [(b3, aO #[iV ((FW (p.ul, p.uh) (a, a) p.es s).1), iV ((FW (p.ul, p.uh) (a, a) p.es s).2)] 75), (b2, aO #[iV 0, iV 0] 23), (b1, aO #[iV p.ll, iV p.lh, iV p.ul, iV p.uh, .slice p.ea p.es.length p.ec] 26)]⟩) (acc := [(pA b3, pA b3)]) (by kernel_rfl) (by kernel_rfl) ⟨rfl, trivial⟩ ?_
          refine run_ret1 157 #[.agg #[iV (elE p.es s).2.1, iV (p.ul, p.uh).1, iV (p.ul, p.uh).2], .agg #[iV ((FW (p.ul, p.uh) (a, a) p.es s).1), iV ((FW (p.ul, p.uh) (a, a) p.es s).2)]] (some 29) (.agg #[iV ((fwdE (p.ul, p.uh) (elE p.es s) (FW (p.ul, p.uh) (a, a) p.es s)).1), iV ((fwdE (p.ul, p.uh) (elE p.es s) (FW (p.ul, p.uh) (a, a) p.es s)).2)]) (by kernel_rfl) (fun w1 k1 h1 => f0_any (p.ul, p.uh) (elE p.es s) (FW (p.ul, p.uh) (a, a) p.es s) w1 hF.u (hF.ev _ (elE_mem hsn)) (by have h : bdS (FW (p.ul, p.uh) (a, a) p.es s) 2000 := lost_bd hF ha0 ha3 (Nat.le_of_lt hsn); unfold bdS at h ⊢; omega) hd2) ?_
          refine run_auto [] 5 [] [0, 0] [2, 30] [0, 1, 2] (st' := ⟨[(2, pA b2), (30, .agg #[iV ((fwdE (p.ul, p.uh) (elE p.es s) (FW (p.ul, p.uh) (a, a) p.es s)).1), iV ((fwdE (p.ul, p.uh) (elE p.es s) (FW (p.ul, p.uh) (a, a) p.es s)).2)])], [(b3, aO #[iV ((fwdE (p.ul, p.uh) (elE p.es s) (FW (p.ul, p.uh) (a, a) p.es s)).1), iV ((fwdE (p.ul, p.uh) (elE p.es s) (FW (p.ul, p.uh) (a, a) p.es s)).2)] 75), (b2, aO #[iV 0, iV 0] 23), (b1, aO #[iV p.ll, iV p.lh, iV p.ul, iV p.uh, .slice p.ea p.es.length p.ec] 26)]⟩) (acc := [(pA b3, pA b3), (pA b3, pA b3)]) (by kernel_rfl) (by kernel_rfl) ⟨rfl, rfl, trivial⟩ ?_
          cases hd3 : (possS (fwdE (p.ul, p.uh) (elE p.es s) (FW (p.ul, p.uh) (a, a) p.es s))) with
          | false =>
            have hno := lost_no hF (a := a) hsn hd3
            refine run_ret1 104 #[.agg #[iV ((fwdE (p.ul, p.uh) (elE p.es s) (FW (p.ul, p.uh) (a, a) p.es s)).1), iV ((fwdE (p.ul, p.uh) (elE p.es s) (FW (p.ul, p.uh) (a, a) p.es s)).2)]] (some 31) (.bool false) (by kernel_rfl) (fun w1 k1 h1 => (by have h := possible_any ((fwdE (p.ul, p.uh) (elE p.es s) (FW (p.ul, p.uh) (a, a) p.es s)).1) ((fwdE (p.ul, p.uh) (elE p.es s) (FW (p.ul, p.uh) (a, a) p.es s)).2) w1; rw [hd3] at h; exact h)) ?_
            refine run_auto [(32, .bool true)] 3 [true] [] [] [0, 1, 2] (st' := ⟨[], [(b3, aO #[iV ((fwdE (p.ul, p.uh) (elE p.es s) (FW (p.ul, p.uh) (a, a) p.es s)).1), iV ((fwdE (p.ul, p.uh) (elE p.es s) (FW (p.ul, p.uh) (a, a) p.es s)).2)] 75), (b2, aO #[iV 0, iV 0] 23), (b1, aO #[iV p.ll, iV p.lh, iV p.ul, iV p.uh, .slice p.ea p.es.length p.ec] 26)]⟩) (acc := [(.bool true, .bool true), (.bool true, .bool true)]) (by kernel_rfl) (by kernel_rfl) ⟨rfl, rfl, trivial⟩ ?_
            exact run_exitQ 1 (by kernel_rfl) (fun a_ w1 g_ => hexit (.exit 1) (fwdE (p.ul, p.uh) (elE p.es s) (FW (p.ul, p.uh) (a, a) p.es s)) _ ⟨rfl, hno⟩ (.inr ⟨1, rfl⟩) (fun b h => h.elim) a_ w1 g_)
          | true =>
            refine run_ret1 104 #[.agg #[iV ((fwdE (p.ul, p.uh) (elE p.es s) (FW (p.ul, p.uh) (a, a) p.es s)).1), iV ((fwdE (p.ul, p.uh) (elE p.es s) (FW (p.ul, p.uh) (a, a) p.es s)).2)]] (some 31) (.bool true) (by kernel_rfl) (fun w1 k1 h1 => (by have h := possible_any ((fwdE (p.ul, p.uh) (elE p.es s) (FW (p.ul, p.uh) (a, a) p.es s)).1) ((fwdE (p.ul, p.uh) (elE p.es s) (FW (p.ul, p.uh) (a, a) p.es s)).2) w1; rw [hd3] at h; exact h)) ?_
            refine run_auto [(32, .bool false)] 5 [false] [] [] [0, 1, 2] (st' := ⟨[], [(b3, aO #[iV ((fwdE (p.ul, p.uh) (elE p.es s) (FW (p.ul, p.uh) (a, a) p.es s)).1), iV ((fwdE (p.ul, p.uh) (elE p.es s) (FW (p.ul, p.uh) (a, a) p.es s)).2)] 75), (b2, aO #[iV 0, iV 0] 23), (b1, aO #[iV p.ll, iV p.lh, iV p.ul, iV p.uh, .slice p.ea p.es.length p.ec] 26)]⟩) (acc := [(.bool false, .bool false), (.bool false, .bool false)]) (by kernel_rfl) (by kernel_rfl) ⟨rfl, rfl, trivial⟩ ?_
            have hx2 : (FW (p.ul, p.uh) (a, a) p.es (s + 1)) = fwdE (p.ul, p.uh) (elE p.es s) (FW (p.ul, p.uh) (a, a) p.es s) := FW_next _ _ hsn
            exact run_nil rfl (fun a_ w1 g_ => hnext (s + 1) _ ⟨by rw [List.length_append, ← hI.1]; rfl, by rw [hx2]; exact hd3⟩ (fun b h => h.elim) a_ w1 (by rw [hx2]; exact g_))
      · skip
        obtain rfl : ys = rgL p.es.length (evI (p.ul, p.uh) p.es) := hys
        have hs : s = p.es.length := by rw [hI.1, rgL_len]
        subst hs
        have hyes : possS (p.n.lost1 a) = true := hI.2
        have hbd := lost_bd hF ha0 ha3 (Nat.le_refl p.n.es.length)
        have hbd : bdS (FW (p.ul, p.uh) (a, a) p.es p.es.length) 2000 := hbd
        unfold bdS at hbd
        refine run_auto [(38, iV (a - ((FW (p.ul, p.uh) (a, a) p.es p.es.length).2))), (43, iV (a - ((FW (p.ul, p.uh) (a, a) p.es p.es.length).1)))] 14 [] [0, 0] [1, 2, 3, 4, 33, 44] [1, 2] (st' := ⟨[(1, pA b1), (2, pA b2), (3, .slice none 0 0), (4, iV a), (33, .slice none 0 0), (44, .agg #[iV (a - ((FW (p.ul, p.uh) (a, a) p.es p.es.length).2)), iV (a - ((FW (p.ul, p.uh) (a, a) p.es p.es.length).1))])], [(b2, aO #[iV 0, iV 0] 23), (b1, aO #[iV p.ll, iV p.lh, iV p.ul, iV p.uh, .slice p.ea p.es.length p.ec] 26)]⟩) (acc := [(iV (IntKind.i64.wrap (a - ((FW (p.ul, p.uh) (a, a) p.es p.es.length).1))), iV (a - ((FW (p.ul, p.uh) (a, a) p.es p.es.length).1))), (pA b3, pA b3), (iV (IntKind.i64.wrap (a - ((FW (p.ul, p.uh) (a, a) p.es p.es.length).2))), iV (a - ((FW (p.ul, p.uh) (a, a) p.es p.es.length).2))), (pA b3, pA b3)]) (by kernel_rfl) (by kernel_rfl) ⟨(wr (by omega) (by omega)), rfl, (wr (by omega) (by omega)), rfl, trivial⟩ ?_
        refine run_new (aO #[iV (a - ((FW (p.ul, p.uh) (a, a) p.es p.es.length).2)), iV (a - ((FW (p.ul, p.uh) (a, a) p.es p.es.length).1))] 23) (fun b5 => sV b5 1 1) (some 45) (fun _ => by kernel_rfl) (fun b5 hb5 => ?_)
        refine run_app_none (t := 134) (ty := 134) (e := 23) (n := 2) (z := .agg #[iV 0, iV 0]) (by kernel_rfl) (by kernel_rfl) (by kernel_rfl) rfl (by kernel_rfl) spV spV_len (some 46) 1 1 ([((a - ((FW (p.ul, p.uh) (a, a) p.es p.es.length).2)), (a - ((FW (p.ul, p.uh) (a, a) p.es p.es.length).1)))] : List Sp) ⟨b5, 0, none⟩ (by first | rfl | omega | (simp; done) | (simp; omega)) (by omega) (by kernel_rfl) (fun w1 k1 h1 jq uq hu => by rw [add_none, Nat.zero_add]; exact cells_of_heap (h1 (b5, aO #[iV (a - ((FW (p.ul, p.uh) (a, a) p.es p.es.length).2)), iV (a - ((FW (p.ul, p.uh) (a, a) p.es p.es.length).1))] 23) (List.mem_of_getElem? (i := 0) (by kernel_rfl))) jq uq hu) (by omega) (fun b6 cap6 sp6 hb6 hqb6 hmb6 hlb6 => ?_)
        refine run_auto [(20, iV (a + 1))] 8 [] [] [1, 2, 3, 4] [0, 2, 3] (st' := ⟨[(1, pA b1), (2, pA b2), (3, sV b6 1 cap6), (4, iV (a + 1))], [(b6, cO ((([((a - ((FW (p.ul, p.uh) (a, a) p.es p.es.length).2)), (a - ((FW (p.ul, p.uh) (a, a) p.es p.es.length).1)))] : List Sp)).flatMap spV ++ sp6) 23), (b2, aO #[iV 0, iV 0] 23), (b1, aO #[iV p.ll, iV p.lh, iV p.ul, iV p.uh, .slice p.ea p.es.length p.ec] 26)]⟩) (acc := [(iV (IntKind.i64.wrap (a + 1)), iV (a + 1))]) (by kernel_rfl) (by kernel_rfl) ⟨(wr (by omega) (by omega)), trivial⟩ ?_
        have hst := lostK_yes (w := p.n) ha hyes
        have e0 : lostK p.n t = [] := List.eq_nil_of_length_eq_zero (by rw [hz2, hz3])
        rw [e0, List.nil_append] at hst
        have hj := hJ0 ((t + 1, 1, some (b6, cap6, sp6))) (⟨by show t + 1 ≤ (p.lh - p.ll + 1).toNat; omega, by rw [hst]; rfl, by dsimp only; omega, hqb6, hmb6, by rw [hst]; exact hlb6, hb6⟩) (by dsimp only; show (p.lh - p.ll + 1).toNat - (t + 1) < (p.lh - p.ll + 1).toNat - t; omega)
        dsimp only at hj
        rw [show p.ll + ((t + 1 : Nat) : Int) = a + 1 from by omega] at hj
        rw [hst] at hj
        exact run_round (by kernel_rfl) hj
      · skip
        obtain ⟨rfl, hno⟩ := hI
        refine run_auto [(20, iV (a + 1))] 6 [] [] [1, 2, 3, 4] [1, 2] (st' := ⟨[(1, pA b1), (2, pA b2), (3, .slice none 0 0), (4, iV (a + 1))], [(b2, aO #[iV 0, iV 0] 23), (b1, aO #[iV p.ll, iV p.lh, iV p.ul, iV p.uh, .slice p.ea p.es.length p.ec] 26)]⟩) (acc := [(iV (IntKind.i64.wrap (a + 1)), iV (a + 1))]) (by kernel_rfl) (by kernel_rfl) ⟨(wr (by omega) (by omega)), trivial⟩ ?_
        have hst := lostK_no (w := p.n) ha hno
        have hj := hJ0 ((t + 1, 0, none)) (⟨by show t + 1 ≤ (p.lh - p.ll + 1).toNat; omega, by rw [hst, hz2, hz3], rfl⟩) (by dsimp only; show (p.lh - p.ll + 1).toNat - (t + 1) < (p.lh - p.ll + 1).toNat - t; omega)
        dsimp only at hj
        rw [show p.ll + ((t + 1 : Nat) : Int) = a + 1 from by omega] at hj
        exact run_round (by kernel_rfl) hj
  · skip
    obtain ⟨hz1, hz2, hz3⟩ := hI0
    dsimp only at hz1 hz2 hz3
    obtain ⟨a, ha⟩ : ∃ a, p.ll + (t : Int) = a := ⟨_, rfl⟩
    dsimp only
    rw [ha]
    obtain ⟨hz4, hz5, hz6, hz7, hz8⟩ := hz3
    have ha0 : 0 ≤ a := by omega
    have hk21 : k ≤ 21 := by have h1 := List.length_filterMap_le (fun (i : Nat) => bif possS (p.n.lost1 (p.n.l.1 + (i : Int))) then some (p.n.l.1 + (i : Int) - (p.n.lost1 (p.n.l.1 + (i : Int))).2, p.n.l.1 + (i : Int) - (p.n.lost1 (p.n.l.1 + (i : Int))).1) else none) (List.range t); rw [List.length_range] at h1; have h2 : (lostK p.n t).length ≤ t := h1; have h3 : t ≤ (p.lh - p.ll + 1).toNat := hz1; omega
    have hml : (1000000 : Nat) ≤ maxLen := by simp only [maxLen]; omega
    cases hd1 : (decide (a ≤ p.lh)) with
    | false =>
      have hp1 := of_decide_eq_false hd1
      have ht : t = p.n.nl := by show t = (p.lh - p.ll + 1).toNat; have h : t ≤ (p.lh - p.ll + 1).toNat := hz1; omega
      refine run_auto [(18, .bool false)] 14 [false] [2] [2, 3, 47] [0, 1] (st' := ⟨[(2, pA b2), (3, sV g k cap), (47, sV g k cap)], [(g, cO ((lostK p.n t).flatMap spV ++ sp) 23), (b2, aO #[iV 0, iV 0] 23)]⟩) (acc := [(.bool false, .bool false), (.bool (decide (a ≤ p.lh)), .bool false), (pA b1, pA b1)]) (by kernel_rfl) (by kernel_rfl) ⟨rfl, (bo hd1), rfl, trivial⟩ ?_
      refine run_v (Instr.indexAt 134 (sV g k cap) (iV (0 : Int)) >>= fun v => pure (Next.value v)) (some 48) (.pointer (some ⟨g, 0 * 2, none⟩)) (by kernel_rfl) (fun w1 k1 h1 => idx_off (e := 23) (n := 2) (by kernel_rfl) (by kernel_rfl) g (0) k cap .i64 0 (by omega) (0 * 2) (by omega) w1) ?_
      refine run_v (Instr.loadAt 23 (.pointer (some ⟨g, 0 * 2, none⟩)) >>= fun v => pure (Next.value v)) (some 49) (.agg #[iV ((elS (lostK p.n t) 0).1), iV ((elS (lostK p.n t) 0).2)]) (by kernel_rfl) (fun w1 k1 h1 => load_own (e := 23) (fr := (0, 0)) (c := (lostK p.n t).flatMap spV ++ sp) h1 (List.mem_of_getElem? (i := 0) (by kernel_rfl)) ((flat_loadS (c := spV) (n := 2) spV_len (by kernel_rfl) (by kernel_rfl) (i := 0) (by first | omega | (simp; omega))).trans (by rw [spV_at (by first | omega | (simp; omega))]; rfl))) ?_
      refine run_new (aO #[iV 0, iV 0] 23) (fun b3 => pA b3) (some 8) (fun _ => by kernel_rfl) (fun b3 hb3 => ?_)
      refine run_auto [] 6 [] [0] [2, 8, 50] [0, 1, 2] (st' := ⟨[(2, pA b2), (8, pA b3), (50, sV g k cap)], [(b3, aO #[iV ((elS (lostK p.n t) 0).1), iV ((elS (lostK p.n t) 0).2)] 23), (g, cO ((lostK p.n t).flatMap spV ++ sp) 23), (b2, aO #[iV 0, iV 0] 23)]⟩) (acc := [(pA b3, pA b3)]) (by kernel_rfl) (by kernel_rfl) ⟨rfl, trivial⟩ ?_
      refine run_v (Instr.sliceAt 134 (sV g k cap) (some (iV 1)) none none >>= fun v => pure (Next.value v)) (some 51) (.slice (some (cutA g 0 1 cap 2)) (k - 1) (cap - 1)) (by kernel_rfl) (fun w1 k1 h1 => cut_l (P := Tryz.prog) (t := 134) (e := 23) (n := 2) (by kernel_rfl) (by kernel_rfl) g (0) k cap w1 .i64 1 (by omega)) ?_
      refine run_auto [] 4 [] [] [2, 8, 51, 52, 53] [0, 1, 2] (st' := ⟨[(2, pA b2), (8, pA b3), (51, .slice (some (cutA g 0 1 cap 2)) (k - 1) (cap - 1)), (52, iV (((k - 1) : Nat) : Int)), (53, iV 0)], [(b3, aO #[iV ((elS (lostK p.n t) 0).1), iV ((elS (lostK p.n t) 0).2)] 23), (g, cO ((lostK p.n t).flatMap spV ++ sp) 23), (b2, aO #[iV 0, iV 0] 23)]⟩) (acc := []) (by kernel_rfl) (by kernel_rfl) trivial ?_
      refine run_auto [] 0 [] [] [2, 8, 51, 52, 53] [0, 1, 2] (st' := ⟨[(2, pA b2), (8, pA b3), (51, .slice (some (cutA g 0 1 cap 2)) (k - 1) (cap - 1)), (52, iV (((k - 1) : Nat) : Int)), (53, iV 0)], [(b3, aO #[iV ((elS (lostK p.n t) 0).1), iV ((elS (lostK p.n t) 0).2)] 23), (g, cO ((lostK p.n t).flatMap spV ++ sp) 23), (b2, aO #[iV 0, iV 0] 23)]⟩) (acc := []) (by kernel_rfl) (by kernel_rfl) trivial ?_
      refine run_loop (S := fun (j : Nat) => ⟨[(2, pA b2), (8, pA b3), (51, .slice (some (cutA g 0 1 cap 2)) (k - 1) (cap - 1)), (52, iV (((k - 1) : Nat) : Int)), (53, iV (j : Int))], [(b3, aO #[iV ((joinK (lostK p.n t) j).1), iV ((joinK (lostK p.n t) j).2)] 23), (g, cO ((lostK p.n t).flatMap spV ++ sp) 23), (b2, aO #[iV 0, iV 0] 23)]⟩) (fun j => j ≤ k - 1) (fun j => k - 1 - j) (0) (by kernel_rfl) (Nat.zero_le _) (by simp [joinK]) (fun j hI1 J1 hJ1 => ?_)
      cases hd2 : (decide ((j : Int) < (((k - 1) : Nat) : Int))) with
      | false =>
        have hp2 := of_decide_eq_false hd2
        refine run_auto [(54, .bool false)] 12 [false] [0, 2] [2] [2] (st' := ⟨[(2, pA b2)], [(b2, aO #[iV ((joinK (lostK p.n t) j).1), iV ((joinK (lostK p.n t) j).2)] 23)]⟩) (acc := [(pA b2, pA b2), (pA b3, pA b3), (.bool false, .bool false), (.bool (decide ((j : Int) < (((k - 1) : Nat) : Int))), .bool false)]) (by kernel_rfl) (by kernel_rfl) ⟨rfl, rfl, rfl, (bo hd2), trivial⟩ ?_
        refine run_end (fn := f50) rfl (Nat.le_refl _) (by kernel_rfl) [0] [.agg #[iV ((joinK (lostK p.n t) j).1), iV ((joinK (lostK p.n t) j).2)]] (e := [(pA b2, pA b2)]) (by kernel_rfl) ⟨rfl, trivial⟩ (fun w1 k1 h1 => ?_)
        exact ⟨by rw [show j = (lostK p.n p.n.nl).length - 1 by rw [← ht, hz2]; omega, ht]; rfl, k1.keeps (fun _ h => h)⟩
      | true =>
        have hp2 := of_decide_eq_true hd2
        have hjk : j < k - 1 := by omega
        have hcut := cut_one (g := g) (cap := cap) (by omega)
        refine run_auto [(54, .bool true)] 11 [true] [] [2, 8, 51, 52, 53] [0, 1, 2] (st' := ⟨[(2, pA b2), (8, pA b3), (51, .slice (some (cutA g 0 1 cap 2)) (k - 1) (cap - 1)), (52, iV (((k - 1) : Nat) : Int)), (53, iV (j : Int))], [(b3, aO #[iV ((joinK (lostK p.n t) j).1), iV ((joinK (lostK p.n t) j).2)] 23), (g, cO ((lostK p.n t).flatMap spV ++ sp) 23), (b2, aO #[iV 0, iV 0] 23)]⟩) (acc := [(.bool true, .bool true), (.bool (decide ((j : Int) < (((k - 1) : Nat) : Int))), .bool true)]) (by kernel_rfl) (by kernel_rfl) ⟨rfl, (bo hd2), trivial⟩ ?_
        refine run_v (Instr.indexAt 134 (.slice (some (cutA g 0 1 cap 2)) (k - 1) (cap - 1)) (iV (j : Int)) >>= fun v => pure (Next.value v)) (some 55) (.pointer (some ⟨g, 2 + j * 2, none⟩)) (by kernel_rfl) (fun w1 k1 h1 => (by rw [hcut]; exact idx_off (e := 23) (n := 2) (by kernel_rfl) (by kernel_rfl) g 2 (k - 1) (cap - 1) .i64 j hjk (2 + j * 2) (by omega) w1)) ?_
        refine run_v (Instr.loadAt 23 (.pointer (some ⟨g, 2 + j * 2, none⟩)) >>= fun v => pure (Next.value v)) (some 56) (.agg #[iV ((elS (lostK p.n t) (j + 1)).1), iV ((elS (lostK p.n t) (j + 1)).2)]) (by kernel_rfl) (fun w1 k1 h1 => load_own (e := 23) (fr := (0, 0)) (c := (lostK p.n t).flatMap spV ++ sp) h1 (List.mem_of_getElem? (i := 1) (by kernel_rfl)) (by rw [show 2 + j * 2 = (j + 1) * 2 from by omega]; exact (flat_loadS (c := spV) (n := 2) spV_len (by kernel_rfl) (by kernel_rfl) (i := (j + 1)) (by omega)).trans (by rw [spV_at (by omega)]; rfl))) ?_
        refine run_new (aO #[iV 0, iV 0] 23) (fun b4 => pA b4) (some 10) (fun _ => by kernel_rfl) (fun b4 hb4 => ?_)
        refine run_auto [] 5 [] [0, 1, 0] [2, 8, 51, 52, 53, 57, 58] [1, 2, 3] (st' := ⟨[(2, pA b2), (8, pA b3), (51, .slice (some (cutA g 0 1 cap 2)) (k - 1) (cap - 1)), (52, iV (((k - 1) : Nat) : Int)), (53, iV (j : Int)), (57, .agg #[iV ((joinK (lostK p.n t) j).1), iV ((joinK (lostK p.n t) j).2)]), (58, .agg #[iV ((elS (lostK p.n t) (j + 1)).1), iV ((elS (lostK p.n t) (j + 1)).2)])], [(b3, aO #[iV ((joinK (lostK p.n t) j).1), iV ((joinK (lostK p.n t) j).2)] 23), (g, cO ((lostK p.n t).flatMap spV ++ sp) 23), (b2, aO #[iV 0, iV 0] 23)]⟩) (acc := [(pA b4, pA b4), (pA b3, pA b3), (pA b4, pA b4)]) (by kernel_rfl) (by kernel_rfl) ⟨rfl, rfl, rfl, trivial⟩ ?_
        refine run_ret1 105 #[.agg #[iV ((joinK (lostK p.n t) j).1), iV ((joinK (lostK p.n t) j).2)], .agg #[iV ((elS (lostK p.n t) (j + 1)).1), iV ((elS (lostK p.n t) (j + 1)).2)]] (some 59) (.agg #[iV ((joiS (joinK (lostK p.n t) j) (elS (lostK p.n t) (j + 1))).1), iV ((joiS (joinK (lostK p.n t) j) (elS (lostK p.n t) (j + 1))).2)]) (by kernel_rfl) (fun w1 k1 h1 => join_any ((joinK (lostK p.n t) j).1) ((joinK (lostK p.n t) j).2) ((elS (lostK p.n t) (j + 1)).1) ((elS (lostK p.n t) (j + 1)).2) w1) ?_
        refine run_auto [(60, iV ((j + 1 : Nat) : Int))] 7 [] [0] [2, 8, 51, 52, 53] [0, 1, 2] (st' := ⟨[(2, pA b2), (8, pA b3), (51, .slice (some (cutA g 0 1 cap 2)) (k - 1) (cap - 1)), (52, iV (((k - 1) : Nat) : Int)), (53, iV ((j + 1 : Nat) : Int))], [(b3, aO #[iV ((joiS (joinK (lostK p.n t) j) (elS (lostK p.n t) (j + 1))).1), iV ((joiS (joinK (lostK p.n t) j) (elS (lostK p.n t) (j + 1))).2)] 23), (g, cO ((lostK p.n t).flatMap spV ++ sp) 23), (b2, aO #[iV 0, iV 0] 23)]⟩) (acc := [(iV (IntKind.i64.wrap ((j : Int) + 1)), iV ((j + 1 : Nat) : Int)), (pA b3, pA b3)]) (by kernel_rfl) (by kernel_rfl) ⟨(wr (by omega) (by omega)), rfl, trivial⟩ ?_
        have hj := hJ1 (j + 1) (by omega) (by omega)
        rw [joinK_next (by omega)] at hj
        exact run_round (by kernel_rfl) hj
    | true =>
      have hp1 := of_decide_eq_true hd1
      have ha3 : a ≤ 300 := by omega
      refine run_auto [(18, .bool true)] 16 [true] [2] [1, 2, 3, 4, 21] [0, 1, 2] (st' := ⟨[(1, pA b1), (2, pA b2), (3, sV g k cap), (4, iV a), (21, iV a)], [(g, cO ((lostK p.n t).flatMap spV ++ sp) 23), (b2, aO #[iV 0, iV 0] 23), (b1, aO #[iV p.ll, iV p.lh, iV p.ul, iV p.uh, .slice p.ea p.es.length p.ec] 26)]⟩) (acc := [(.bool true, .bool true), (.bool (decide (a ≤ p.lh)), .bool true), (pA b1, pA b1)]) (by kernel_rfl) (by kernel_rfl) ⟨rfl, (bo hd1), rfl, trivial⟩ ?_
      refine run_ret1 102 #[iV a] (some 22) (.agg #[iV a, iV a]) (by kernel_rfl) (fun w1 k1 h1 => exactly_any a w1) ?_
      refine run_new (aO #[iV 0, iV 0] 75) (fun b3 => pA b3) (some 5) (fun _ => by kernel_rfl) (fun b3 hb3 => ?_)
      refine run_auto [] 6 [] [0, 3] [1, 2, 3, 4, 5, 23] [0, 1, 2, 3] (st' := ⟨[(1, pA b1), (2, pA b2), (3, sV g k cap), (4, iV a), (5, pA b3), (23, .agg #[iV p.ll, iV p.lh, iV p.ul, iV p.uh, .slice p.ea p.es.length p.ec])], [(b3, aO #[iV a, iV a] 75), (g, cO ((lostK p.n t).flatMap spV ++ sp) 23), (b2, aO #[iV 0, iV 0] 23), (b1, aO #[iV p.ll, iV p.lh, iV p.ul, iV p.uh, .slice p.ea p.es.length p.ec] 26)]⟩) (acc := [(pA b1, pA b1), (pA b3, pA b3)]) (by kernel_rfl) (by kernel_rfl) ⟨rfl, rfl, trivial⟩ ?_
      refine run_nwl 103 #[.agg #[iV p.ll, iV p.lh, iV p.ul, iV p.uh, .slice p.ea p.es.length p.ec]] (some 24) (α := Nat × Nat × Nat) (fun x => .func (.func 133) #[] #[.pointer (some ⟨(x.1), 0, none⟩), .pointer (some ⟨(x.2.1), 0, none⟩)]) (fun x => [((x.1), aO #[.func (.func 135) #[] #[.pointer (some ⟨(x.2.2), 0, none⟩)]] 161), ((x.2.1), aO #[iV p.ll, iV p.lh, iV p.ul, iV p.uh, .slice p.ea p.es.length p.ec] 26), ((x.2.2), aO #[.slice p.ea p.es.length p.ec] 24)]) (fun x => True) (by kernel_rfl) (fun x p hp => by simp only [List.mem_cons, List.not_mem_nil, or_false] at hp; rcases hp with rfl | rfl | rfl <;> rfl) (fun w1 k1 h1 => onward_any p w1) (fun x hI4 hn4 => ?_)
      obtain ⟨bo4, bw4, bs4⟩ := x
      dsimp only at hI4 hn4
      have hbo4 := hn4 _ (List.mem_of_getElem? (i := 0) rfl)
      have hbw4 := hn4 _ (List.mem_of_getElem? (i := 1) rfl)
      have hbs4 := hn4 _ (List.mem_of_getElem? (i := 2) rfl)
      refine run_auto [] 2 [] [] [1, 2, 3, 4, 5, 24] [0, 1, 2, 3, 4, 5, 6] (st' := ⟨[(1, pA b1), (2, pA b2), (3, sV g k cap), (4, iV a), (5, pA b3), (24, .func (.func 133) #[] #[pA bo4, pA bw4])], [(bo4, aO #[.func (.func 135) #[] #[pA bs4]] 161), (bw4, aO #[iV p.ll, iV p.lh, iV p.ul, iV p.uh, .slice p.ea p.es.length p.ec] 26), (bs4, aO #[.slice p.ea p.es.length p.ec] 24), (b3, aO #[iV a, iV a] 75), (g, cO ((lostK p.n t).flatMap spV ++ sp) 23), (b2, aO #[iV 0, iV 0] 23), (b1, aO #[iV p.ll, iV p.lh, iV p.ul, iV p.uh, .slice p.ea p.es.length p.ec] 26)]⟩) (acc := []) (by kernel_rfl) (by kernel_rfl) trivial ?_
      refine run_auto [] 0 [] [] [1, 2, 3, 4, 5, 24] [0, 1, 2, 3, 4, 5, 6] (st' := ⟨[(1, pA b1), (2, pA b2), (3, sV g k cap), (4, iV a), (5, pA b3), (24, .func (.func 133) #[] #[pA bo4, pA bw4])], [(bo4, aO #[.func (.func 135) #[] #[pA bs4]] 161), (bw4, aO #[iV p.ll, iV p.lh, iV p.ul, iV p.uh, .slice p.ea p.es.length p.ec] 26), (bs4, aO #[.slice p.ea p.es.length p.ec] 24), (b3, aO #[iV a, iV a] 75), (g, cO ((lostK p.n t).flatMap spV ++ sp) 23), (b2, aO #[iV 0, iV 0] 23), (b1, aO #[iV p.ll, iV p.lh, iV p.ul, iV p.uh, .slice p.ea p.es.length p.ec] 26)]⟩) (acc := []) (by kernel_rfl) (by kernel_rfl) trivial ?_
      refine run_range (σ := Nat) (τ := Sp) 133 #[pA bo4, pA bw4] [25, 26] [(bo4, aO #[.func (.func 135) #[] #[pA bs4]] 161), (bw4, aO #[iV p.ll, iV p.lh, iV p.ul, iV p.uh, .slice p.ea p.es.length p.ec] 26), (bs4, aO #[.slice p.ea p.es.length p.ec] 24)] [(b3, aO #[iV a, iV a] 75), (g, cO ((lostK p.n t).flatMap spV ++ sp) 23), (b2, aO #[iV 0, iV 0] 23), (b1, aO #[iV p.ll, iV p.lh, iV p.ul, iV p.uh, .slice p.ea p.es.length p.ec] 26)] (EvsD p.es p.ea) (fun l => l <+: rgL p.es.length (evI (p.ul, p.uh) p.es)) (fun l => l = rgL p.es.length (evI (p.ul, p.uh) p.es)) (by kernel_rfl) rfl rfl (fun l => by kernel_rfl) rfl (by kernel_rfl) (fun pre x hx => by rw [(rgL_at hx).2.2]; rfl) (Gives.own (events_All p bo4 bw4 bs4 hF.n8)) (fun D w1 k1 hD => (hp.ev.evD (D := fun _ => False) (fun _ _ h => h)).kept k1 hD)
        (fun s => [(b3, aO #[iV ((FW (p.ul, p.uh) (a, a) p.es s).1), iV ((FW (p.ul, p.uh) (a, a) p.es s).2)] 75), (g, cO ((lostK p.n t).flatMap spV ++ sp) 23), (b2, aO #[iV 0, iV 0] 23), (b1, aO #[iV p.ll, iV p.lh, iV p.ul, iV p.uh, .slice p.ea p.es.length p.ec] 26)]) (fun s => Ext.none) (fun pre s => s = (pre).length ∧ possS (FW (p.ul, p.uh) (a, a) p.es s) = true) (fun y => [(b3, aO #[iV y.1, iV y.2] 75), (g, cO ((lostK p.n t).flatMap spV ++ sp) 23), (b2, aO #[iV 0, iV 0] 23), (b1, aO #[iV p.ll, iV p.lh, iV p.ul, iV p.uh, .slice p.ea p.es.length p.ec] 26)]) (fun y => Ext.none) (fun c y => c = .exit 1 ∧ possS (p.n.lost1 a) = false) (0) (⟨rfl, by show possS (a, a) = true; unfold possS; simp⟩) rfl rfl (fun _ _ _ => ⟨rfl, fun _ _ h => h.elim⟩) (fun _ _ _ => rfl)
        (fun pre x s hpre hI l0 ms ro ob w0 Jb Jn Je hkk hll hbeg hnext hexit => ?_) (fun ys s hys hI => ?_) (fun c y hI => ?_)
      · skip
        have hpre : pre ++ [x] <+: rgL p.es.length (evI (p.ul, p.uh) p.es) := hpre
        have hx := rgL_at hpre
        rw [← hI.1] at hx
        have hsn := hx.1
        obtain rfl := hx.2.2
        refine run_auto [] 3 [] [] [2, 5, 7] [0, 1, 2, 3] (st' := ⟨[(2, pA b2), (5, pA b3), (7, evV (p.ul, p.uh) (elE p.es s))], [(b3, aO #[iV ((FW (p.ul, p.uh) (a, a) p.es s).1), iV ((FW (p.ul, p.uh) (a, a) p.es s).2)] 75), (g, cO ((lostK p.n t).flatMap spV ++ sp) 23), (b2, aO #[iV 0, iV 0] 23), (b1, aO #[iV p.ll, iV p.lh, iV p.ul, iV p.uh, .slice p.ea p.es.length p.ec] 26)]⟩) (acc := []) (by kernel_rfl) (by kernel_rfl) trivial ?_
        refine run_round rfl (hbeg _ ?_)
        cases hd2 : ((elE p.es s).1 == 0) with
        | false =>
          have hp2 : ¬ (elE p.es s).1 = 0 := by simpa using hd2
          cases hd3 : ((elE p.es s).1 == 2) with
          | false =>
            have hp3 : ¬ (elE p.es s).1 = 2 := by simpa using hd3
            rw [show evV (p.ul, p.uh) (elE p.es s) = .iface 175 (.agg #[iV (elE p.es s).2.2.1, iV (elE p.es s).2.2.2]) from by unfold evV; rw [hd2, hd3]; rfl]
            refine run_auto [] 5 [] [0] [2, 5, 27, 28] [0, 1, 2, 3] (st' := ⟨[(2, pA b2), (5, pA b3), (27, .iface 175 (.agg #[iV (elE p.es s).2.2.1, iV (elE p.es s).2.2.2])), (28, .agg #[iV ((FW (p.ul, p.uh) (a, a) p.es s).1), iV ((FW (p.ul, p.uh) (a, a) p.es s).2)])], [(b3, aO #[iV ((FW (p.ul, p.uh) (a, a) p.es s).1), iV ((FW (p.ul, p.uh) (a, a) p.es s).2)] 75), (g, cO ((lostK p.n t).flatMap spV ++ sp) 23), (b2, aO #[iV 0, iV 0] 23), (b1, aO #[iV p.ll, iV p.lh, iV p.ul, iV p.uh, .slice p.ea p.es.length p.ec] 26)]⟩) (acc := [(pA b3, pA b3)]) (by kernel_rfl) (by kernel_rfl) ⟨rfl, trivial⟩ ?_
            refine run_ret1 162 #[.agg #[iV (elE p.es s).2.2.1, iV (elE p.es s).2.2.2], .agg #[iV ((FW (p.ul, p.uh) (a, a) p.es s).1), iV ((FW (p.ul, p.uh) (a, a) p.es s).2)]] (some 29) (.agg #[iV ((fwdE (p.ul, p.uh) (elE p.es s) (FW (p.ul, p.uh) (a, a) p.es s)).1), iV ((fwdE (p.ul, p.uh) (elE p.es s) (FW (p.ul, p.uh) (a, a) p.es s)).2)]) (by kernel_rfl) (fun w1 k1 h1 => f2_any (p.ul, p.uh) (elE p.es s) (FW (p.ul, p.uh) (a, a) p.es s) w1 hd2 hd3) ?_
            refine run_auto [] 5 [] [0, 0] [2, 30] [0, 1, 2, 3] (st' := ⟨[(2, pA b2), (30, .agg #[iV ((fwdE (p.ul, p.uh) (elE p.es s) (FW (p.ul, p.uh) (a, a) p.es s)).1), iV ((fwdE (p.ul, p.uh) (elE p.es s) (FW (p.ul, p.uh) (a, a) p.es s)).2)])], [(b3, aO #[iV ((fwdE (p.ul, p.uh) (elE p.es s) (FW (p.ul, p.uh) (a, a) p.es s)).1), iV ((fwdE (p.ul, p.uh) (elE p.es s) (FW (p.ul, p.uh) (a, a) p.es s)).2)] 75), (g, cO ((lostK p.n t).flatMap spV ++ sp) 23), (b2, aO #[iV 0, iV 0] 23), (b1, aO #[iV p.ll, iV p.lh, iV p.ul, iV p.uh, .slice p.ea p.es.length p.ec] 26)]⟩) (acc := [(pA b3, pA b3), (pA b3, pA b3)]) (by kernel_rfl) (by kernel_rfl) ⟨rfl, rfl, trivial⟩ ?_
            cases hd4 : (possS (fwdE (p.ul, p.uh) (elE p.es s) (FW (p.ul, p.uh) (a, a) p.es s))) with
            | false =>
              have hno := lost_no hF (a := a) hsn hd4
              refine run_ret1 104 #[.agg #[iV ((fwdE (p.ul, p.uh) (elE p.es s) (FW (p.ul, p.uh) (a, a) p.es s)).1), iV ((fwdE (p.ul, p.uh) (elE p.es s) (FW (p.ul, p.uh) (a, a) p.es s)).2)]] (some 31) (.bool false) (by kernel_rfl) (fun w1 k1 h1 => (by have h := possible_any ((fwdE (p.ul, p.uh) (elE p.es s) (FW (p.ul, p.uh) (a, a) p.es s)).1) ((fwdE (p.ul, p.uh) (elE p.es s) (FW (p.ul, p.uh) (a, a) p.es s)).2) w1; rw [hd4] at h; exact h)) ?_
              refine run_auto [(32, .bool true)] 3 [true] [] [] [0, 1, 2, 3] (st' := ⟨[], [(b3, aO #[iV ((fwdE (p.ul, p.uh) (elE p.es s) (FW (p.ul, p.uh) (a, a) p.es s)).1), iV ((fwdE (p.ul, p.uh) (elE p.es s) (FW (p.ul, p.uh) (a, a) p.es s)).2)] 75), (g, cO ((lostK p.n t).flatMap spV ++ sp) 23), (b2, aO #[iV 0, iV 0] 23), (b1, aO #[iV p.ll, iV p.lh, iV p.ul, iV p.uh, .slice p.ea p.es.length p.ec] 26)]⟩) (acc := [(.bool true, .bool true), (.bool true, .bool true)]) (by kernel_rfl) (by kernel_rfl) ⟨rfl, rfl, trivial⟩ ?_
              exact run_exitQ 1 (by kernel_rfl) (fun a_ w1 g_ => hexit (.exit 1) (fwdE (p.ul, p.uh) (elE p.es s) (FW (p.ul, p.uh) (a, a) p.es s)) _ ⟨rfl, hno⟩ (.inr ⟨1, rfl⟩) (fun b h => h.elim) a_ w1 g_)
            | true =>
              refine run_ret1 104 #[.agg #[iV ((fwdE (p.ul, p.uh) (elE p.es s) (FW (p.ul, p.uh) (a, a) p.es s)).1), iV ((fwdE (p.ul, p.uh) (elE p.es s) (FW (p.ul, p.uh) (a, a) p.es s)).2)]] (some 31) (.bool true) (by kernel_rfl) (fun w1 k1 h1 => (by have h := possible_any ((fwdE (p.ul, p.uh) (elE p.es s) (FW (p.ul, p.uh) (a, a) p.es s)).1) ((fwdE (p.ul, p.uh) (elE p.es s) (FW (p.ul, p.uh) (a, a) p.es s)).2) w1; rw [hd4] at h; exact h)) ?_
              refine run_auto [(32, .bool false)] 5 [false] [] [] [0, 1, 2, 3] (st' := ⟨[], [(b3, aO #[iV ((fwdE (p.ul, p.uh) (elE p.es s) (FW (p.ul, p.uh) (a, a) p.es s)).1), iV ((fwdE (p.ul, p.uh) (elE p.es s) (FW (p.ul, p.uh) (a, a) p.es s)).2)] 75), (g, cO ((lostK p.n t).flatMap spV ++ sp) 23), (b2, aO #[iV 0, iV 0] 23), (b1, aO #[iV p.ll, iV p.lh, iV p.ul, iV p.uh, .slice p.ea p.es.length p.ec] 26)]⟩) (acc := [(.bool false, .bool false), (.bool false, .bool false)]) (by kernel_rfl) (by kernel_rfl) ⟨rfl, rfl, trivial⟩ ?_
              have hx2 : (FW (p.ul, p.uh) (a, a) p.es (s + 1)) = fwdE (p.ul, p.uh) (elE p.es s) (FW (p.ul, p.uh) (a, a) p.es s) := FW_next _ _ hsn
              exact run_nil rfl (fun a_ w1 g_ => hnext (s + 1) _ ⟨by rw [List.length_append, ← hI.1]; rfl, by rw [hx2]; exact hd4⟩ (fun b h => h.elim) a_ w1 (by rw [hx2]; exact g_))
          | true =>
            have hp3 : (elE p.es s).1 = 2 := by simpa using hd3
            rw [show evV (p.ul, p.uh) (elE p.es s) = .iface 173 (.agg #[iV (elE p.es s).2.2.1, iV (elE p.es s).2.2.2]) from by unfold evV; rw [hd2, hd3]; rfl]
            refine run_auto [] 5 [] [0] [2, 5, 27, 28] [0, 1, 2, 3] (st' := ⟨[(2, pA b2), (5, pA b3), (27, .iface 173 (.agg #[iV (elE p.es s).2.2.1, iV (elE p.es s).2.2.2])), (28, .agg #[iV ((FW (p.ul, p.uh) (a, a) p.es s).1), iV ((FW (p.ul, p.uh) (a, a) p.es s).2)])], [(b3, aO #[iV ((FW (p.ul, p.uh) (a, a) p.es s).1), iV ((FW (p.ul, p.uh) (a, a) p.es s).2)] 75), (g, cO ((lostK p.n t).flatMap spV ++ sp) 23), (b2, aO #[iV 0, iV 0] 23), (b1, aO #[iV p.ll, iV p.lh, iV p.ul, iV p.uh, .slice p.ea p.es.length p.ec] 26)]⟩) (acc := [(pA b3, pA b3)]) (by kernel_rfl) (by kernel_rfl) ⟨rfl, trivial⟩ ?_
            refine run_ret1 160 #[.agg #[iV (elE p.es s).2.2.1, iV (elE p.es s).2.2.2], .agg #[iV ((FW (p.ul, p.uh) (a, a) p.es s).1), iV ((FW (p.ul, p.uh) (a, a) p.es s).2)]] (some 29) (.agg #[iV ((fwdE (p.ul, p.uh) (elE p.es s) (FW (p.ul, p.uh) (a, a) p.es s)).1), iV ((fwdE (p.ul, p.uh) (elE p.es s) (FW (p.ul, p.uh) (a, a) p.es s)).2)]) (by kernel_rfl) (fun w1 k1 h1 => f1_any (p.ul, p.uh) (elE p.es s) (FW (p.ul, p.uh) (a, a) p.es s) w1 (hF.ev _ (elE_mem hsn)) (by have h : bdS (FW (p.ul, p.uh) (a, a) p.es s) 2000 := lost_bd hF ha0 ha3 (Nat.le_of_lt hsn); unfold bdS at h ⊢; omega) hd2 hd3) ?_
            refine run_auto [] 5 [] [0, 0] [2, 30] [0, 1, 2, 3] (st' := ⟨[(2, pA b2), (30, .agg #[iV ((fwdE (p.ul, p.uh) (elE p.es s) (FW (p.ul, p.uh) (a, a) p.es s)).1), iV ((fwdE (p.ul, p.uh) (elE p.es s) (FW (p.ul, p.uh) (a, a) p.es s)).2)])], [(b3, aO #[iV ((fwdE (p.ul, p.uh) (elE p.es s) (FW (p.ul, p.uh) (a, a) p.es s)).1), iV ((fwdE (p.ul, p.uh) (elE p.es s) (FW (p.ul, p.uh) (a, a) p.es s)).2)] 75), (g, cO ((lostK p.n t).flatMap spV ++ sp) 23), (b2, aO #[iV 0, iV 0] 23), (b1, aO #[iV p.ll, iV p.lh, iV p.ul, iV p.uh, .slice p.ea p.es.length p.ec] 26)]⟩) (acc := [(pA b3, pA b3), (pA b3, pA b3)]) (by kernel_rfl) (by kernel_rfl) ⟨rfl, rfl, trivial⟩ ?_
            cases hd4 : (possS (fwdE (p.ul, p.uh) (elE p.es s) (FW (p.ul, p.uh) (a, a) p.es s))) with
            | false =>
              have hno := lost_no hF (a := a) hsn hd4
              refine run_ret1 104 #[.agg #[iV ((fwdE (p.ul, p.uh) (elE p.es s) (FW (p.ul, p.uh) (a, a) p.es s)).1), iV ((fwdE (p.ul, p.uh) (elE p.es s) (FW (p.ul, p.uh) (a, a) p.es s)).2)]] (some 31) (.bool false) (by kernel_rfl) (fun w1 k1 h1 => (by have h := possible_any ((fwdE (p.ul, p.uh) (elE p.es s) (FW (p.ul, p.uh) (a, a) p.es s)).1) ((fwdE (p.ul, p.uh) (elE p.es s) (FW (p.ul, p.uh) (a, a) p.es s)).2) w1; rw [hd4] at h; exact h)) ?_
              refine run_auto [(32, .bool true)] 3 [true] [] [] [0, 1, 2, 3] (st' := ⟨[], [(b3, aO #[iV ((fwdE (p.ul, p.uh) (elE p.es s) (FW (p.ul, p.uh) (a, a) p.es s)).1), iV ((fwdE (p.ul, p.uh) (elE p.es s) (FW (p.ul, p.uh) (a, a) p.es s)).2)] 75), (g, cO ((lostK p.n t).flatMap spV ++ sp) 23), (b2, aO #[iV 0, iV 0] 23), (b1, aO #[iV p.ll, iV p.lh, iV p.ul, iV p.uh, .slice p.ea p.es.length p.ec] 26)]⟩) (acc := [(.bool true, .bool true), (.bool true, .bool true)]) (by kernel_rfl) (by kernel_rfl) ⟨rfl, rfl, trivial⟩ ?_
              exact run_exitQ 1 (by kernel_rfl) (fun a_ w1 g_ => hexit (.exit 1) (fwdE (p.ul, p.uh) (elE p.es s) (FW (p.ul, p.uh) (a, a) p.es s)) _ ⟨rfl, hno⟩ (.inr ⟨1, rfl⟩) (fun b h => h.elim) a_ w1 g_)
            | true =>
              refine run_ret1 104 #[.agg #[iV ((fwdE (p.ul, p.uh) (elE p.es s) (FW (p.ul, p.uh) (a, a) p.es s)).1), iV ((fwdE (p.ul, p.uh) (elE p.es s) (FW (p.ul, p.uh) (a, a) p.es s)).2)]] (some 31) (.bool true) (by kernel_rfl) (fun w1 k1 h1 => (by have h := possible_any ((fwdE (p.ul, p.uh) (elE p.es s) (FW (p.ul, p.uh) (a, a) p.es s)).1) ((fwdE (p.ul, p.uh) (elE p.es s) (FW (p.ul, p.uh) (a, a) p.es s)).2) w1; rw [hd4] at h; exact h)) ?_
              refine run_auto [(32, .bool false)] 5 [false] [] [] [0, 1, 2, 3] (st' := ⟨[], [(b3, aO #[iV ((fwdE (p.ul, p.uh) (elE p.es s) (FW (p.ul, p.uh) (a, a) p.es s)).1), iV ((fwdE (p.ul, p.uh) (elE p.es s) (FW (p.ul, p.uh) (a, a) p.es s)).2)] 75), (g, cO ((lostK p.n t).flatMap spV ++ sp) 23), (b2, aO #[iV 0, iV 0] 23), (b1, aO #[iV p.ll, iV p.lh, iV p.ul, iV p.uh, .slice p.ea p.es.length p.ec] 26)]⟩) (acc := [(.bool false, .bool false), (.bool false, .bool false)]) (by kernel_rfl) (by kernel_rfl) ⟨rfl, rfl, trivial⟩ ?_
              have hx2 : (FW (p.ul, p.uh) (a, a) p.es (s + 1)) = fwdE (p.ul, p.uh) (elE p.es s) (FW (p.ul, p.uh) (a, a) p.es s) := FW_next _ _ hsn
              exact run_nil rfl (fun a_ w1 g_ => hnext (s + 1) _ ⟨by rw [List.length_append, ← hI.1]; rfl, by rw [hx2]; exact hd4⟩ (fun b h => h.elim) a_ w1 (by rw [hx2]; exact g_))
        | true =>
          have hp2 : (elE p.es s).1 = 0 := by simpa using hd2
          rw [show evV (p.ul, p.uh) (elE p.es s) = .iface 171 (.agg #[iV (elE p.es s).2.1, iV (p.ul, p.uh).1, iV (p.ul, p.uh).2]) from by unfold evV; rw [hd2]; rfl]
          refine run_auto [] 5 [] [0] [2, 5, 27, 28] [0, 1, 2, 3] (st' := ⟨[(2, pA b2), (5, pA b3), (27, .iface 171 (.agg #[iV (elE p.es s).2.1, iV (p.ul, p.uh).1, iV (p.ul, p.uh).2])), (28, .agg #[iV ((FW (p.ul, p.uh) (a, a) p.es s).1), iV ((FW (p.ul, p.uh) (a, a) p.es s).2)])], [(b3, aO #[iV ((FW (p.ul, p.uh) (a, a) p.es s).1), iV ((FW (p.ul, p.uh) (a, a) p.es s).2)] 75), (g, cO ((lostK p.n t).flatMap spV ++ sp) 23), (b2, aO #[iV 0, iV 0] 23), (b1, aO #[iV p.ll, iV p.lh, iV p.ul, iV p.uh, .slice p.ea p.es.length p.ec] 26)]⟩) (acc := [(pA b3, pA b3)]) (by kernel_rfl) (by kernel_rfl) ⟨rfl, trivial⟩ ?_
          refine run_ret1 157 #[.agg #[iV (elE p.es s).2.1, iV (p.ul, p.uh).1, iV (p.ul, p.uh).2], .agg #[iV ((FW (p.ul, p.uh) (a, a) p.es s).1), iV ((FW (p.ul, p.uh) (a, a) p.es s).2)]] (some 29) (.agg #[iV ((fwdE (p.ul, p.uh) (elE p.es s) (FW (p.ul, p.uh) (a, a) p.es s)).1), iV ((fwdE (p.ul, p.uh) (elE p.es s) (FW (p.ul, p.uh) (a, a) p.es s)).2)]) (by kernel_rfl) (fun w1 k1 h1 => f0_any (p.ul, p.uh) (elE p.es s) (FW (p.ul, p.uh) (a, a) p.es s) w1 hF.u (hF.ev _ (elE_mem hsn)) (by have h : bdS (FW (p.ul, p.uh) (a, a) p.es s) 2000 := lost_bd hF ha0 ha3 (Nat.le_of_lt hsn); unfold bdS at h ⊢; omega) hd2) ?_
          refine run_auto [] 5 [] [0, 0] [2, 30] [0, 1, 2, 3] (st' := ⟨[(2, pA b2), (30, .agg #[iV ((fwdE (p.ul, p.uh) (elE p.es s) (FW (p.ul, p.uh) (a, a) p.es s)).1), iV ((fwdE (p.ul, p.uh) (elE p.es s) (FW (p.ul, p.uh) (a, a) p.es s)).2)])], [(b3, aO #[iV ((fwdE (p.ul, p.uh) (elE p.es s) (FW (p.ul, p.uh) (a, a) p.es s)).1), iV ((fwdE (p.ul, p.uh) (elE p.es s) (FW (p.ul, p.uh) (a, a) p.es s)).2)] 75), (g, cO ((lostK p.n t).flatMap spV ++ sp) 23), (b2, aO #[iV 0, iV 0] 23), (b1, aO #[iV p.ll, iV p.lh, iV p.ul, iV p.uh, .slice p.ea p.es.length p.ec] 26)]⟩) (acc := [(pA b3, pA b3), (pA b3, pA b3)]) (by kernel_rfl) (by kernel_rfl) ⟨rfl, rfl, trivial⟩ ?_
          cases hd3 : (possS (fwdE (p.ul, p.uh) (elE p.es s) (FW (p.ul, p.uh) (a, a) p.es s))) with
          | false =>
            have hno := lost_no hF (a := a) hsn hd3
            refine run_ret1 104 #[.agg #[iV ((fwdE (p.ul, p.uh) (elE p.es s) (FW (p.ul, p.uh) (a, a) p.es s)).1), iV ((fwdE (p.ul, p.uh) (elE p.es s) (FW (p.ul, p.uh) (a, a) p.es s)).2)]] (some 31) (.bool false) (by kernel_rfl) (fun w1 k1 h1 => (by have h := possible_any ((fwdE (p.ul, p.uh) (elE p.es s) (FW (p.ul, p.uh) (a, a) p.es s)).1) ((fwdE (p.ul, p.uh) (elE p.es s) (FW (p.ul, p.uh) (a, a) p.es s)).2) w1; rw [hd3] at h; exact h)) ?_
            refine run_auto [(32, .bool true)] 3 [true] [] [] [0, 1, 2, 3] (st' := ⟨[], [(b3, aO #[iV ((fwdE (p.ul, p.uh) (elE p.es s) (FW (p.ul, p.uh) (a, a) p.es s)).1), iV ((fwdE (p.ul, p.uh) (elE p.es s) (FW (p.ul, p.uh) (a, a) p.es s)).2)] 75), (g, cO ((lostK p.n t).flatMap spV ++ sp) 23), (b2, aO #[iV 0, iV 0] 23), (b1, aO #[iV p.ll, iV p.lh, iV p.ul, iV p.uh, .slice p.ea p.es.length p.ec] 26)]⟩) (acc := [(.bool true, .bool true), (.bool true, .bool true)]) (by kernel_rfl) (by kernel_rfl) ⟨rfl, rfl, trivial⟩ ?_
            exact run_exitQ 1 (by kernel_rfl) (fun a_ w1 g_ => hexit (.exit 1) (fwdE (p.ul, p.uh) (elE p.es s) (FW (p.ul, p.uh) (a, a) p.es s)) _ ⟨rfl, hno⟩ (.inr ⟨1, rfl⟩) (fun b h => h.elim) a_ w1 g_)
          | true =>
            refine run_ret1 104 #[.agg #[iV ((fwdE (p.ul, p.uh) (elE p.es s) (FW (p.ul, p.uh) (a, a) p.es s)).1), iV ((fwdE (p.ul, p.uh) (elE p.es s) (FW (p.ul, p.uh) (a, a) p.es s)).2)]] (some 31) (.bool true) (by kernel_rfl) (fun w1 k1 h1 => (by have h := possible_any ((fwdE (p.ul, p.uh) (elE p.es s) (FW (p.ul, p.uh) (a, a) p.es s)).1) ((fwdE (p.ul, p.uh) (elE p.es s) (FW (p.ul, p.uh) (a, a) p.es s)).2) w1; rw [hd3] at h; exact h)) ?_
            refine run_auto [(32, .bool false)] 5 [false] [] [] [0, 1, 2, 3] (st' := ⟨[], [(b3, aO #[iV ((fwdE (p.ul, p.uh) (elE p.es s) (FW (p.ul, p.uh) (a, a) p.es s)).1), iV ((fwdE (p.ul, p.uh) (elE p.es s) (FW (p.ul, p.uh) (a, a) p.es s)).2)] 75), (g, cO ((lostK p.n t).flatMap spV ++ sp) 23), (b2, aO #[iV 0, iV 0] 23), (b1, aO #[iV p.ll, iV p.lh, iV p.ul, iV p.uh, .slice p.ea p.es.length p.ec] 26)]⟩) (acc := [(.bool false, .bool false), (.bool false, .bool false)]) (by kernel_rfl) (by kernel_rfl) ⟨rfl, rfl, trivial⟩ ?_
            have hx2 : (FW (p.ul, p.uh) (a, a) p.es (s + 1)) = fwdE (p.ul, p.uh) (elE p.es s) (FW (p.ul, p.uh) (a, a) p.es s) := FW_next _ _ hsn
            exact run_nil rfl (fun a_ w1 g_ => hnext (s + 1) _ ⟨by rw [List.length_append, ← hI.1]; rfl, by rw [hx2]; exact hd3⟩ (fun b h => h.elim) a_ w1 (by rw [hx2]; exact g_))
      · skip
        obtain rfl : ys = rgL p.es.length (evI (p.ul, p.uh) p.es) := hys
        have hs : s = p.es.length := by rw [hI.1, rgL_len]
        subst hs
        have hyes : possS (p.n.lost1 a) = true := hI.2
        have hbd := lost_bd hF ha0 ha3 (Nat.le_refl p.n.es.length)
        have hbd : bdS (FW (p.ul, p.uh) (a, a) p.es p.es.length) 2000 := hbd
        unfold bdS at hbd
        refine run_auto [(38, iV (a - ((FW (p.ul, p.uh) (a, a) p.es p.es.length).2))), (43, iV (a - ((FW (p.ul, p.uh) (a, a) p.es p.es.length).1)))] 14 [] [0, 0] [1, 2, 3, 4, 33, 44] [1, 2, 3] (st' := ⟨[(1, pA b1), (2, pA b2), (3, sV g k cap), (4, iV a), (33, sV g k cap), (44, .agg #[iV (a - ((FW (p.ul, p.uh) (a, a) p.es p.es.length).2)), iV (a - ((FW (p.ul, p.uh) (a, a) p.es p.es.length).1))])], [(g, cO ((lostK p.n t).flatMap spV ++ sp) 23), (b2, aO #[iV 0, iV 0] 23), (b1, aO #[iV p.ll, iV p.lh, iV p.ul, iV p.uh, .slice p.ea p.es.length p.ec] 26)]⟩) (acc := [(iV (IntKind.i64.wrap (a - ((FW (p.ul, p.uh) (a, a) p.es p.es.length).1))), iV (a - ((FW (p.ul, p.uh) (a, a) p.es p.es.length).1))), (pA b3, pA b3), (iV (IntKind.i64.wrap (a - ((FW (p.ul, p.uh) (a, a) p.es p.es.length).2))), iV (a - ((FW (p.ul, p.uh) (a, a) p.es p.es.length).2))), (pA b3, pA b3)]) (by kernel_rfl) (by kernel_rfl) ⟨(wr (by omega) (by omega)), rfl, (wr (by omega) (by omega)), rfl, trivial⟩ ?_
        refine run_new (aO #[iV (a - ((FW (p.ul, p.uh) (a, a) p.es p.es.length).2)), iV (a - ((FW (p.ul, p.uh) (a, a) p.es p.es.length).1))] 23) (fun b5 => sV b5 1 1) (some 45) (fun _ => by kernel_rfl) (fun b5 hb5 => ?_)
        refine run_app (t := 134) (ty := 134) (e := 23) (n := 2) (z := .agg #[iV 0, iV 0]) (by kernel_rfl) (by kernel_rfl) (by kernel_rfl) rfl (by kernel_rfl) spV spV_len spV_one (some 46) 1 g k 1 cap 1 (lostK p.n t) ([((a - ((FW (p.ul, p.uh) (a, a) p.es p.es.length).2)), (a - ((FW (p.ul, p.uh) (a, a) p.es p.es.length).1)))] : List Sp) sp ⟨b5, 0, none⟩ (by first | rfl | omega | (simp; done) | (simp; omega)) (by first | rfl | omega | (simp; done) | (simp; omega)) (by kernel_rfl) (by kernel_rfl) hz6 hz7 (fun w1 k1 h1 jq uq hu => by rw [add_none, Nat.zero_add]; exact cells_of_heap (h1 (b5, aO #[iV (a - ((FW (p.ul, p.uh) (a, a) p.es p.es.length).2)), iV (a - ((FW (p.ul, p.uh) (a, a) p.es p.es.length).1))] 23) (List.mem_of_getElem? (i := 0) (by kernel_rfl))) jq uq hu) (by omega) hz8 (fun b6 cap6 sp6 hb6 hqb6 hmb6 hlb6 => ?_)
        refine run_auto [(20, iV (a + 1))] 8 [] [] [1, 2, 3, 4] [0, 2, 3] (st' := ⟨[(1, pA b1), (2, pA b2), (3, sV b6 (k + 1) cap6), (4, iV (a + 1))], [(b6, cO ((lostK p.n t ++ ([((a - ((FW (p.ul, p.uh) (a, a) p.es p.es.length).2)), (a - ((FW (p.ul, p.uh) (a, a) p.es p.es.length).1)))] : List Sp)).flatMap spV ++ sp6) 23), (b2, aO #[iV 0, iV 0] 23), (b1, aO #[iV p.ll, iV p.lh, iV p.ul, iV p.uh, .slice p.ea p.es.length p.ec] 26)]⟩) (acc := [(iV (IntKind.i64.wrap (a + 1)), iV (a + 1))]) (by kernel_rfl) (by kernel_rfl) ⟨(wr (by omega) (by omega)), trivial⟩ ?_
        have hst := lostK_yes (w := p.n) ha hyes
        have hj := hJ0 ((t + 1, k + 1, some (b6, cap6, sp6))) (⟨by show t + 1 ≤ (p.lh - p.ll + 1).toNat; omega, by rw [hst]; rw [List.length_append, hz2]; rfl, by dsimp only; omega, hqb6, hmb6, by rw [hst]; exact hlb6, hb6⟩) (by dsimp only; show (p.lh - p.ll + 1).toNat - (t + 1) < (p.lh - p.ll + 1).toNat - t; omega)
        dsimp only at hj
        rw [show p.ll + ((t + 1 : Nat) : Int) = a + 1 from by omega] at hj
        rw [hst] at hj
        exact run_round (by kernel_rfl) hj
      · skip
        obtain ⟨rfl, hno⟩ := hI
        refine run_auto [(20, iV (a + 1))] 6 [] [] [1, 2, 3, 4] [1, 2, 3] (st' := ⟨[(1, pA b1), (2, pA b2), (3, sV g k cap), (4, iV (a + 1))], [(g, cO ((lostK p.n t).flatMap spV ++ sp) 23), (b2, aO #[iV 0, iV 0] 23), (b1, aO #[iV p.ll, iV p.lh, iV p.ul, iV p.uh, .slice p.ea p.es.length p.ec] 26)]⟩) (acc := [(iV (IntKind.i64.wrap (a + 1)), iV (a + 1))]) (by kernel_rfl) (by kernel_rfl) ⟨(wr (by omega) (by omega)), trivial⟩ ?_
        have hst := lostK_no (w := p.n) ha hno
        have hj := hJ0 ((t + 1, k, some (g, cap, sp))) (⟨by show t + 1 ≤ (p.lh - p.ll + 1).toNat; omega, by rw [hst]; exact hz2, hz4, hz5, hz6, by rw [hst]; exact hz7, hz8⟩) (by dsimp only; show (p.lh - p.ll + 1).toNat - (t + 1) < (p.lh - p.ll + 1).toNat - t; omega)
        dsimp only at hj
        rw [show p.ll + ((t + 1 : Nat) : Int) = a + 1 from by omega] at hj
        rw [hst] at hj
        exact run_round (by kernel_rfl) hj

end Go.Proofs.YtdehgplklgfcdaaGreat
