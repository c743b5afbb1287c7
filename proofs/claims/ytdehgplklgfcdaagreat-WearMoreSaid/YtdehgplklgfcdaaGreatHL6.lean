/-
  LAW: WearMore: what more22 needs; from region 47 on (more47).
-/
import Derived.Test.YtdehgplklgfcdaaGreatHL2
import Derived.Test.YtdehgplklgfcdaaGreatGb
namespace Go.Proofs.YtdehgplklgfcdaaGreat
open Go.RowKit Go.Proofs.Tryz
attribute [local irreducible] Run wpK


def inSB (x y : Sp) : Bool := decide (y.1 ≤ x.1 ∧ x.2 ≤ y.2)
theorem lostR_no {p : Wb} (h : p.n.Fine) (hc : p.n.can = false) : lostR p = .inl 10 := by unfold lostR; rw [h.okB, hc]; rfl
theorem untilR_no {p : Wb} (h : p.n.Fine) (hc : p.n.can = false) {m : Int} (hm : spI (m, m) (-1000) 1000 = true) : untilR p m = .inl 10 := by unfold untilR; rw [h.okB, hc, hm]; rfl
theorem belowR_no {p : Wb} (h : p.n.Fine) (hc : p.n.can = false) {m : Int} (hm : spI (m, m) (-1000) 1000 = true) : belowR p m = .inl 10 := by unfold belowR; rw [h.okB, hc, hm]; rfl
theorem sub_last {z p : Wb} {o : Nat → Nat} (h : Sub z.n p.n o) (hz : z.n.Fine) (hw : p.n.Fine) (hc : z.n.can = true) : (mC p.n p.es.length).1 ≤ (mC z.n z.es.length).1 := by
  have h1 := h.mC hz hw hc (j := z.n.es.length) (Nat.le_refl _) (by rw [h.last]; exact Nat.le_refl _)
  rw [h.last] at h1
  exact h1.1
set_option maxRecDepth 100000 in
theorem inS_any (a b c d : Int) (w : World)  : Calls Tryz.prog 38 #[.agg #[.int .i64 a, .int .i64 b], .agg #[.int .i64 c, .int .i64 d]] w (RetB (inSB (a, b) (c, d)) w) := by
  refine calls_run (fn := f38) (c := (f38.body).getD .skip) [.agg #[.int .i64 a, .int .i64 b], .agg #[.int .i64 c, .int .i64 d]] func38 (by kernel_rfl) (fun _ => False) [] (fun _ h => by cases h) (List.Pairwise.nil) 17 (by kernel_rfl) (by simp) ?_
  refine run_auto [] 2 [] [] [0, 1] [] (st' := ⟨[(0, .agg #[iV a, iV b]), (1, .agg #[iV c, iV d])], []⟩) (acc := []) (by kernel_rfl) (by kernel_rfl) trivial ?_
  refine run_new (aO #[iV a, iV b] 23) (fun b1 => pA b1) (some 2) (fun _ => by kernel_rfl) (fun b1 hb1 => ?_)
  refine run_new (aO #[iV c, iV d] 23) (fun b2 => pA b2) (some 3) (fun _ => by kernel_rfl) (fun b2 hb2 => ?_)
  cases hd1 : (decide (c ≤ a)) with
  | false =>
    have hp1 := of_decide_eq_false hd1
    refine run_auto [(9, .bool false)] 18 [] [1, 0] [4] [] (st' := ⟨[(4, .bool false)], []⟩) (acc := [(.bool (decide (c ≤ a)), .bool false), (pA b2, pA b2), (pA b1, pA b1)]) (by kernel_rfl) (by kernel_rfl) ⟨(bo hd1), rfl, rfl, trivial⟩ ?_
    refine run_end (fn := f38) rfl (Nat.le_refl _) (by kernel_rfl) [] [.bool false] (e := []) (by kernel_rfl) trivial (fun w1 k1 h1 => ?_)
    exact ⟨by simp only [resVal]; congr 2; simp only [inSB]; simp; omega, k1.keeps (fun _ h => h)⟩
  | true =>
    have hp1 := of_decide_eq_true hd1
    cases hd2 : (decide (b ≤ d)) with
    | false =>
      have hp2 := of_decide_eq_false hd2
      refine run_auto [(9, .bool true), (15, .bool false)] 18 [] [1, 0, 1, 0] [4] [] (st' := ⟨[(4, .bool false)], []⟩) (acc := [(.bool (decide (b ≤ d)), .bool false), (pA b2, pA b2), (pA b1, pA b1), (.bool (decide (c ≤ a)), .bool true), (pA b2, pA b2), (pA b1, pA b1)]) (by kernel_rfl) (by kernel_rfl) ⟨(bo hd2), rfl, rfl, (bo hd1), rfl, rfl, trivial⟩ ?_
      refine run_end (fn := f38) rfl (Nat.le_refl _) (by kernel_rfl) [] [.bool false] (e := []) (by kernel_rfl) trivial (fun w1 k1 h1 => ?_)
      exact ⟨by simp only [resVal]; congr 2; simp only [inSB]; simp; omega, k1.keeps (fun _ h => h)⟩
    | true =>
      have hp2 := of_decide_eq_true hd2
      refine run_auto [(9, .bool true), (15, .bool true)] 18 [] [1, 0, 1, 0] [4] [] (st' := ⟨[(4, .bool true)], []⟩) (acc := [(.bool (decide (b ≤ d)), .bool true), (pA b2, pA b2), (pA b1, pA b1), (.bool (decide (c ≤ a)), .bool true), (pA b2, pA b2), (pA b1, pA b1)]) (by kernel_rfl) (by kernel_rfl) ⟨(bo hd2), rfl, rfl, (bo hd1), rfl, rfl, trivial⟩ ?_
      refine run_end (fn := f38) rfl (Nat.le_refl _) (by kernel_rfl) [] [.bool true] (e := []) (by kernel_rfl) trivial (fun w1 k1 h1 => ?_)
      exact ⟨by simp only [resVal]; congr 2; simp only [inSB]; simp; omega, k1.keeps (fun _ h => h)⟩

theorem eq_ev_span (a b : Int) (w : World) : (Op.equalIn 9999 23 (.agg #[.int .i64 a, .int .i64 b]) (.agg #[.int .i64 a, .int .i64 b])).run Tryz.prog w = .ok true w := by
  rw [run_equalIn_agg w 9998 _ _ _ eq_span_fields eq_span_held]
  have h := eq_span_list
  match hf : (Tryz.prog.fieldsOf 23).toList, h with
  | [f0, f1], h =>
    simp only [List.map_cons, List.map_nil, List.cons.injEq, Prod.mk.injEq, and_true] at h
    obtain ⟨⟨q0a, q0b, q0c⟩, q1a, q1b, q1c⟩ := h
    simp [Op.eqFields, q0a, q0b, q0c, q1a, q1b, q1c, go_sem]
  | [], h => simp at h
  | [_], h => simp at h
  | _ :: _ :: _ :: _, h => simp at h
theorem eq_ev_fields : Tryz.prog.underlying 55 = some (.struct (Tryz.prog.fieldsOf 55)) := by kernel_rfl
theorem eq_ev_held : Tryz.prog.stoodInHeld 55 = false := by kernel_rfl
theorem eq_ev_list : (Tryz.prog.fieldsOf 55).toList.map (fun f => (f.name, f.type, f.offset)) = [("Kind", 3, 0), ("Uses", 3, 1), ("Span", 23, 2)] := by kernel_rfl
theorem eq_ev_eq (k n a b : Int) (w : World) : (Op.equal 55 (.agg #[.int .i64 k, .int .i64 n, .int .i64 a, .int .i64 b]) (.agg #[.int .i64 k, .int .i64 n, .int .i64 a, .int .i64 b])).run Tryz.prog w = .ok true w := by
  have key : (Op.equalIn 10000 55 (.agg #[.int .i64 k, .int .i64 n, .int .i64 a, .int .i64 b]) (.agg #[.int .i64 k, .int .i64 n, .int .i64 a, .int .i64 b])).run Tryz.prog w = .ok true w := by
    rw [run_equalIn_agg w 9999 _ _ _ eq_ev_fields eq_ev_held]
    have h := eq_ev_list
    match hf : (Tryz.prog.fieldsOf 55).toList, h with
    | [f0, f1, f2], h =>
      simp only [List.map_cons, List.map_nil, List.cons.injEq, Prod.mk.injEq, and_true] at h
      obtain ⟨⟨q0a, q0b, q0c⟩, ⟨q1a, q1b, q1c⟩, q2a, q2b, q2c⟩ := h
      simp [Op.eqFields, q0a, q0b, q0c, q1a, q1b, q1c, q2a, q2b, q2c, go_sem, eq_ev_span]
    | [], h => simp at h
    | [_], h => simp at h
    | [_, _], h => simp at h
    | _ :: _ :: _ :: _ :: _, h => simp at h
  simp only [Op.equal, Op.maxDepth]
  exact key
theorem eq_ev_ne (X Y : Operand) (k n a b : Int) (w : World) : ((do eqGuard .neq 55 X Y (.agg #[.int .i64 k, .int .i64 n, .int .i64 a, .int .i64 b]) (.agg #[.int .i64 k, .int .i64 n, .int .i64 a, .int .i64 b]); binOp .neq 55 (.agg #[.int .i64 k, .int .i64 n, .int .i64 a, .int .i64 b]) (.agg #[.int .i64 k, .int .i64 n, .int .i64 a, .int .i64 b])) >>= fun v => pure (Next.value v)).run Tryz.prog w = .ok (.value (.bool false)) w := by
  have hg := run_eqGuard_agg (P := Tryz.prog) (w := w) .neq 55 X Y #[.int .i64 k, .int .i64 n, .int .i64 a, .int .i64 b] #[.int .i64 k, .int .i64 n, .int .i64 a, .int .i64 b] (by kernel_rfl)
  simp only [binOp]
  simp [hg, eq_ev_eq, Result.andThen]
set_option maxRecDepth 100000 in
set_option maxHeartbeats 4000000 in
theorem more47 (p : Wb) (bw gk capk : Nat) (spk : List Value) (w : World) (hp : p.In w) (hok : p.n.ok = true) : Run { P := Tryz.prog, lo := w.heap.size, rd := none, n := 2, M := fun _ => False, B := w, N := 331, Q := bodyPostM Fence.wide 2 Tryz.prog f10 (RetB true w) } [.code (cAt [true, true, true, true, true, true, true, true, true, true, true, true, true, true, true, true, true, false, false] ((f10.body).getD .skip)), .code (cAt [true, true, true, true, true, true, true, true, true, true, true, true, true, true, true, true, true, false, true] ((f10.body).getD .skip)), .code (cAt [true, true, true, true, true, true, true, true, true, true, true, true, true, true, true, true, true, true] ((f10.body).getD .skip))] ⟨[(4, pA bw), (8, .bool false), (17, sV gk (0 + p.es.length) capk)], [(gk, cO ((p.es).flatMap evR ++ spk) 55), (bw, aO #[iV p.ll, iV p.lh, iV p.ul, iV p.uh, .slice p.ea p.es.length p.ec] 26)]⟩ := by
  have hF := Wn.fine hok
  have hn8 : p.es.length ≤ 8 := hF.n8
  have hml : (1000000 : Nat) ≤ maxLen := by simp only [maxLen]; omega
  refine run_auto [] 6 [] [] [4, 8, 17, 315, 316] [0, 1] (st' := ⟨[(4, pA bw), (8, .bool false), (17, sV gk (0 + p.es.length) capk), (315, iV (0 + p.es.length : Int)), (316, iV 0)], [(gk, cO ((p.es).flatMap evR ++ spk) 55), (bw, aO #[iV p.ll, iV p.lh, iV p.ul, iV p.uh, .slice p.ea p.es.length p.ec] 26)]⟩) (acc := []) (by kernel_rfl) (by kernel_rfl) trivial ?_
  refine run_auto [] 0 [] [] [4, 8, 17, 315, 316] [0, 1] (st' := ⟨[(4, pA bw), (8, .bool false), (17, sV gk (0 + p.es.length) capk), (315, iV (0 + p.es.length : Int)), (316, iV 0)], [(gk, cO ((p.es).flatMap evR ++ spk) 55), (bw, aO #[iV p.ll, iV p.lh, iV p.ul, iV p.uh, .slice p.ea p.es.length p.ec] 26)]⟩) (acc := []) (by kernel_rfl) (by kernel_rfl) trivial ?_
  refine run_loop (S := fun (q : Nat) => ⟨[(4, pA bw), (8, .bool false), (17, sV gk (0 + p.es.length) capk), (315, iV (0 + p.es.length : Int)), (316, iV (q : Int))], [(gk, cO ((p.es).flatMap evR ++ spk) 55), (bw, aO #[iV p.ll, iV p.lh, iV p.ul, iV p.uh, .slice p.ea p.es.length p.ec] 26)]⟩) (fun q => q ≤ p.es.length) (fun q => p.es.length - q) (0) (by kernel_rfl) (Nat.zero_le _) (by simp) (fun q hI3 J3 hJ3 => ?_)
  cases hd1 : (decide ((q : Int) < (0 + p.es.length : Int))) with
  | false =>
    have hp1 := of_decide_eq_false hd1
    refine run_auto [(317, .bool false)] 9 [false] [] [8] [] (st' := ⟨[(8, .bool false)], []⟩) (acc := [(.bool false, .bool false), (.bool (decide ((q : Int) < (0 + p.es.length : Int))), .bool false)]) (by kernel_rfl) (by kernel_rfl) ⟨rfl, (bo hd1), trivial⟩ ?_
    refine run_ret1 13 #[] (some 330) (.bool true) (by kernel_rfl) (fun w1 k1 h1 => awake_any w1) ?_
    refine run_auto [] 2 [] [] [8] [] (st' := ⟨[(8, .bool true)], []⟩) (acc := []) (by kernel_rfl) (by kernel_rfl) trivial ?_
    refine run_end (fn := f10) rfl (Nat.le_refl _) (by kernel_rfl) [] [.bool true] (e := []) (by kernel_rfl) trivial (fun w1 k1 h1 => ?_)
    exact ⟨rfl, k1.keeps (fun _ h => h)⟩
  | true =>
    have hp1 := of_decide_eq_true hd1
    have hlt : q < p.es.length := by omega
    obtain ⟨be, oe, hbe, hc⟩ := hp.ev (by intro h; rw [h] at hlt; cases hlt)
    have hc := hc q hlt
    refine run_auto [(317, .bool true)] 15 [true] [] [4, 8, 17, 315, 316, 42] [0, 1] (st' := ⟨[(4, pA bw), (8, .bool false), (17, sV gk (0 + p.es.length) capk), (315, iV (0 + p.es.length : Int)), (316, iV (q : Int)), (42, iV (q : Int))], [(gk, cO ((p.es).flatMap evR ++ spk) 55), (bw, aO #[iV p.ll, iV p.lh, iV p.ul, iV p.uh, .slice p.ea p.es.length p.ec] 26)]⟩) (acc := [(.bool true, .bool true), (.bool (decide ((q : Int) < (0 + p.es.length : Int))), .bool true)]) (by kernel_rfl) (by kernel_rfl) ⟨rfl, (bo hd1), trivial⟩ ?_
    refine drawW 10 [{ val := fun _ => sV gk (0 + p.es.length) capk, slots := [17] },
          { val := fun _ => iV (q : Int), slots := [42] },
          { val := fun _ => .pointer (some ⟨gk, q * 4, none⟩), slots := [319, 320] },
          { val := fun _ => .agg #[iV (elE p.es q).1, iV (elE p.es q).2.1, iV (elE p.es q).2.2.1, iV (elE p.es q).2.2.2], slots := [321], reads := [0] },
          { val := fun _ => .pointer (some ⟨bw, 4, none⟩), slots := [4] },
          { val := fun _ => .slice p.ea p.es.length p.ec, slots := [323], reads := [1] },
          { val := fun _ => iV (q : Int), slots := [42] },
          { val := fun _ => .pointer (some ⟨be, oe + q * 4, none⟩), slots := [324, 325] },
          { val := fun _ => .agg #[iV (elE p.es q).1, iV (elE p.es q).2.1, iV (elE p.es q).2.2.1, iV (elE p.es q).2.2.2], slots := [326] },
          { val := fun _ => .bool false, slots := [322, 327] }] [[], [], [0, 1], [0, 1, 2], [], [4], [], [4, 5, 6], [4, 5, 6, 7], [0, 1, 2, 3, 4, 5, 6, 7, 8]] (by kernel_rfl) (by kernel_rfl) (by kernel_rfl) (by kernel_rfl) [4, 8, 17, 315, 316, 328] [0, 1] (by kernel_rfl)
          ⟨⟨⟨⟨⟨⟨⟨⟨⟨⟨trivial,
          tri_quietW (fun β => []) [] [] (fun β => []) (by kernel_rfl) (fun β extra => by kernel_rfl) (by kernel_rfl) (fun β => trivial)⟩,
          tri_quietW (fun β => []) [] [] (fun β => []) (by kernel_rfl) (fun β extra => by kernel_rfl) (by kernel_rfl) (fun β => trivial)⟩,
          tri_vVW (fun β => .pointer (some ⟨gk, q * 4, none⟩)) (fun β => by kernel_rfl) (fun β => (Instr.indexAt 24 (sV gk (0 + p.es.length) capk) (iV (q : Int)) >>= fun v => pure (Next.value v))) (by kernel_rfl) (fun β extra => by kernel_rfl) (fun β => by kernel_rfl) (fun β w1 k1 h1 => idx_off (e := 55) (n := 4) (by kernel_rfl) (by kernel_rfl) gk (0) (0 + p.es.length) capk .i64 q (by omega) (q * 4) (by omega) w1)⟩,
          tri_vVW (fun β => .agg #[iV (elE p.es q).1, iV (elE p.es q).2.1, iV (elE p.es q).2.2.1, iV (elE p.es q).2.2.2]) (fun β => by kernel_rfl) (fun β => (Instr.loadAt 55 (.pointer (some ⟨gk, q * 4, none⟩)) >>= fun v => pure (Next.value v))) (by kernel_rfl) (fun β extra => by kernel_rfl) (fun β => by kernel_rfl) (fun β w1 k1 h1 => load_own (e := 55) (fr := (0, 0)) (c := (p.es).flatMap evR ++ spk) h1 (List.mem_of_getElem? (i := 0) (by kernel_rfl)) ((flat_loadS (c := evR) (n := 4) evR_len (by kernel_rfl) (by kernel_rfl) (i := q) (by first | omega | (simp; omega))).trans (by rw [evR_at (by first | omega | (simp; omega))]; rfl)))⟩,
          tri_quietW (fun β => []) [] [] (fun β => []) (by kernel_rfl) (fun β extra => by kernel_rfl) (by kernel_rfl) (fun β => trivial)⟩,
          tri_quietW (fun β => []) [0] [0] (fun β => [(pA bw, pA bw)]) (by kernel_rfl) (fun β extra => by kernel_rfl) (by kernel_rfl) (fun β => ⟨rfl, trivial⟩)⟩,
          tri_quietW (fun β => []) [] [] (fun β => []) (by kernel_rfl) (fun β extra => by kernel_rfl) (by kernel_rfl) (fun β => trivial)⟩,
          tri_vVW (fun β => .pointer (some ⟨be, oe + q * 4, none⟩)) (fun β => by kernel_rfl) (fun β => (Instr.indexAt 24 (.slice p.ea p.es.length p.ec) (iV (q : Int)) >>= fun v => pure (Next.value v))) (by kernel_rfl) (fun β extra => by kernel_rfl) (fun β => by kernel_rfl) (fun β w1 k1 h1 => (by rw [hbe]; exact idx_off (e := 55) (n := 4) (by kernel_rfl) (by kernel_rfl) be oe p.es.length p.ec .i64 q hlt (oe + q * 4) (by omega) w1))⟩,
          tri_vVW (fun β => .agg #[iV (elE p.es q).1, iV (elE p.es q).2.1, iV (elE p.es q).2.2.1, iV (elE p.es q).2.2.2]) (fun β => by kernel_rfl) (fun β => (Instr.loadAt 55 (.pointer (some ⟨be, oe + q * 4, none⟩)) >>= fun v => pure (Next.value v))) (by kernel_rfl) (fun β extra => by kernel_rfl) (fun β => by kernel_rfl) (fun β w1 k1 h1 => load_in (off := 0) k1 (fun h => h) [iV (elE p.es q).1, iV (elE p.es q).2.1, iV (elE p.es q).2.2.1, iV (elE p.es q).2.2.2] (c4 hc.1 hc.2.1 hc.2.2.1 hc.2.2.2) (by kernel_rfl))⟩,
          tri_vVW (fun β => .bool false) (fun β => by kernel_rfl) (fun β => ((do eqGuard .neq 55 (.tmp 322) (.tmp 327) (.agg #[iV (elE p.es q).1, iV (elE p.es q).2.1, iV (elE p.es q).2.2.1, iV (elE p.es q).2.2.2]) (.agg #[iV (elE p.es q).1, iV (elE p.es q).2.1, iV (elE p.es q).2.2.1, iV (elE p.es q).2.2.2]); binOp .neq 55 (.agg #[iV (elE p.es q).1, iV (elE p.es q).2.1, iV (elE p.es q).2.2.1, iV (elE p.es q).2.2.2]) (.agg #[iV (elE p.es q).1, iV (elE p.es q).2.1, iV (elE p.es q).2.2.1, iV (elE p.es q).2.2.2])) >>= fun v => pure (Next.value v))) (by kernel_rfl) (fun β extra => by kernel_rfl) (fun β => by kernel_rfl) (fun β w1 k1 h1 => eq_ev_ne (.tmp 322) (.tmp 327) (elE p.es q).1 (elE p.es q).2.1 (elE p.es q).2.2.1 (elE p.es q).2.2.2 w1)⟩
          (fun β => ⟨[(4, pA bw), (8, .bool false), (17, sV gk (0 + p.es.length) capk), (315, iV (0 + p.es.length : Int)), (316, iV (q : Int)), (328, .bool false)], [(gk, cO ((p.es).flatMap evR ++ spk) 55), (bw, aO #[iV p.ll, iV p.lh, iV p.ul, iV p.uh, .slice p.ea p.es.length p.ec] 26)]⟩) (fun β => by kernel_rfl) (fun β1 => ?_)
    refine run_auto [(329, iV ((q + 1 : Nat) : Int))] 7 [false] [] [4, 8, 17, 315, 316] [0, 1] (st' := ⟨[(4, pA bw), (8, .bool false), (17, sV gk (0 + p.es.length) capk), (315, iV (0 + p.es.length : Int)), (316, iV ((q + 1 : Nat) : Int))], [(gk, cO ((p.es).flatMap evR ++ spk) 55), (bw, aO #[iV p.ll, iV p.lh, iV p.ul, iV p.uh, .slice p.ea p.es.length p.ec] 26)]⟩) (acc := [(iV (IntKind.i64.wrap ((q : Int) + 1)), iV ((q + 1 : Nat) : Int)), (.bool false, .bool false)]) (by kernel_rfl) (by kernel_rfl) ⟨(wr (by omega) (by omega)), rfl, trivial⟩ ?_
    exact run_round (by kernel_rfl) (hJ3 (q + 1) (by omega) (by omega))

end Go.Proofs.YtdehgplklgfcdaaGreat
