/-
  LAW: span, touch, sample, Spans; what is valid; results that the document fixes.
  LAW: results that the document fixes.
  LAW: remainders; a settle with a touch more.
  LAW: numbers: when a block has settled; from when on; how an excess falls.
  LAW: a touch more; SettleLatest: numbers.
-/
import Derived.Test.YtfjfkaaflghaiaaGf
import Derived.Test.YtfjfkaaflghaiaaGb
namespace Go.Proofs.Ytfjfkaaflghaiaa
open Go.RowKit Go.Proofs.Try
attribute [local irreducible] Run wpK

set_option maxRecDepth 100000 in
theorem span_any (a b : Int) (w : World)  : Calls Try.prog 10 #[.int .i64 a, .int .i64 b] w (Ret (.agg #[.int .i64 a, .int .i64 b]) w) := by
  refine calls_run (fn := f10) (c := (f10.body).getD .skip) [.int .i64 a, .int .i64 b] func10 (by kernel_rfl) (fun _ => False) [] (fun _ h => by cases h) (List.Pairwise.nil) 8 (by kernel_rfl) (by simp) ?_
  refine run_auto [] 2 [] [] [0, 1] [] (st' := ⟨[(0, iV a), (1, iV b)], []⟩) (acc := []) (by kernel_rfl) (by kernel_rfl) trivial ?_
  refine run_new (aO #[iV 0, iV 0] 23) (fun b1 => pA b1) (some 4) (fun _ => by kernel_rfl) (fun b1 hb1 => ?_)
  refine run_auto [] 8 [] [0] [4] [0] (st' := ⟨[(4, pA b1)], [(b1, aO #[iV a, iV b] 23)]⟩) (acc := [(pA b1, pA b1)]) (by kernel_rfl) (by kernel_rfl) ⟨rfl, trivial⟩ ?_
  refine run_end (fn := f10) rfl (Nat.le_refl _) (by kernel_rfl) [0] [.agg #[iV a, iV b]] (e := [(pA b1, pA b1)]) (by kernel_rfl) ⟨rfl, trivial⟩ (fun w1 k1 h1 => ?_)
  exact ⟨rfl, k1.keeps (fun _ h => h)⟩

set_option maxRecDepth 100000 in
theorem touch_any (a b c d : Int) (w : World)  : Calls Try.prog 29 #[.int .i64 a, .int .i64 b, .int .i64 c, .int .i64 d] w (Ret (.agg #[.int .i64 a, .int .i64 b, .int .i64 c, .int .i64 d]) w) := by
  refine calls_run (fn := f29) (c := (f29.body).getD .skip) [.int .i64 a, .int .i64 b, .int .i64 c, .int .i64 d] func29 (by kernel_rfl) (fun _ => False) [] (fun _ h => by cases h) (List.Pairwise.nil) 15 (by kernel_rfl) (by simp) ?_
  refine run_auto [] 2 [] [] [0, 1, 2, 3] [] (st' := ⟨[(0, iV a), (1, iV b), (2, iV c), (3, iV d)], []⟩) (acc := []) (by kernel_rfl) (by kernel_rfl) trivial ?_
  refine run_new (aO #[iV 0, iV 0, iV 0, iV 0] 61) (fun b1 => pA b1) (some 8) (fun _ => by kernel_rfl) (fun b1 hb1 => ?_)
  refine run_auto [] 7 [] [] [8, 9, 10, 11, 12] [0] (st' := ⟨[(8, pA b1), (9, iV a), (10, iV b), (11, iV c), (12, iV d)], [(b1, aO #[iV 0, iV 0, iV 0, iV 0] 61)]⟩) (acc := []) (by kernel_rfl) (by kernel_rfl) trivial ?_
  refine run_ret1 10 #[iV c, iV d] (some 13) (.agg #[iV c, iV d]) (by kernel_rfl) (fun w1 k1 h1 => span_any c d w1) ?_
  refine run_auto [] 3 [] [0] [8] [0] (st' := ⟨[(8, pA b1)], [(b1, aO #[iV a, iV b, iV c, iV d] 61)]⟩) (acc := [(pA b1, pA b1)]) (by kernel_rfl) (by kernel_rfl) ⟨rfl, trivial⟩ ?_
  refine run_end (fn := f29) rfl (Nat.le_refl _) (by kernel_rfl) [0] [.agg #[iV a, iV b, iV c, iV d]] (e := [(pA b1, pA b1)]) (by kernel_rfl) ⟨rfl, trivial⟩ (fun w1 k1 h1 => ?_)
  exact ⟨rfl, k1.keeps (fun _ h => h)⟩


def sBs : List Bk := [(40, 44, 4, 4, 10, 12), (-6, -5, 2, 3, 0, 0)]
def sTs : List Tc := [(1, 4, 8, 10)]
/-- The settle of the examples. -/
def smp (gb gt : Nat) : Sb := ⟨some ⟨gb, 0, none⟩, 2, sBs, 5, 12, some ⟨gt, 0, none⟩, 1, sTs⟩
theorem smp_in {w : World} {gb gt : Nat} (hb : w.heap[gb]? = some (.cells (sBs.flatMap bkR).toArray 54 (0, 0))) (ht : w.heap[gt]? = some (.cells (sTs.flatMap tcR).toArray 61 (0, 0))) : (smp gb gt).In w :=
  ⟨Bks.of_flat (L := sBs) (sp := []) (by rw [List.append_nil]; exact hb), Tcs.of_flat (L := sTs) (sp := []) (by rw [List.append_nil]; exact ht), by show 2 ≤ maxLen; simp only [maxLen]; omega, by show 1 ≤ maxLen; simp only [maxLen]; omega⟩
set_option maxRecDepth 100000 in
theorem sample_any  (w : World)  : Calls Try.prog 12 #[] w (NwL (α := Nat × Nat) (fun x => .agg #[.slice (some ⟨(x.2), 0, none⟩) 2 2, .int .i64 5, .int .i64 12, .slice (some ⟨(x.1), 0, none⟩) 1 1]) (fun x => [((x.1), .cells #[.int .i64 1, .int .i64 4, .int .i64 8, .int .i64 10] 61 (0, 0)), ((x.2), .cells #[.int .i64 40, .int .i64 44, .int .i64 4, .int .i64 4, .int .i64 10, .int .i64 12, .int .i64 (-6), .int .i64 (-5), .int .i64 2, .int .i64 3, .int .i64 0, .int .i64 0] 54 (0, 0))]) (fun _ => True) w) := by
  refine calls_run (fn := f12) (c := (f12.body).getD .skip) [] func12 (by kernel_rfl) (fun _ => False) [] (fun _ h => by cases h) (List.Pairwise.nil) 12 (by kernel_rfl) (by simp) ?_
  refine run_auto [] 2 [] [] [] [] (st' := ⟨[], []⟩) (acc := []) (by kernel_rfl) (by kernel_rfl) trivial ?_
  refine run_new (aO #[.slice none 0 0, iV 0, iV 0, .slice none 0 0] 33) (fun b1 => pA b1) (some 0) (fun _ => by kernel_rfl) (fun b1 hb1 => ?_)
  refine run_auto [] 3 [] [] [0] [0] (st' := ⟨[(0, pA b1)], [(b1, aO #[.slice none 0 0, iV 0, iV 0, .slice none 0 0] 33)]⟩) (acc := []) (by kernel_rfl) (by kernel_rfl) trivial ?_
  refine run_ret1 10 #[iV 40, iV 44] (some 1) (.agg #[iV 40, iV 44]) (by kernel_rfl) (fun w1 k1 h1 => span_any 40 44 w1) ?_
  refine run_ret1 10 #[iV 4, iV 4] (some 2) (.agg #[iV 4, iV 4]) (by kernel_rfl) (fun w1 k1 h1 => span_any 4 4 w1) ?_
  refine run_ret1 10 #[iV 10, iV 12] (some 3) (.agg #[iV 10, iV 12]) (by kernel_rfl) (fun w1 k1 h1 => span_any 10 12 w1) ?_
  refine run_auto [] 1 [] [] [0, 4] [0] (st' := ⟨[(0, pA b1), (4, .agg #[iV 40, iV 44, iV 4, iV 4, iV 10, iV 12])], [(b1, aO #[.slice none 0 0, iV 0, iV 0, .slice none 0 0] 33)]⟩) (acc := []) (by kernel_rfl) (by kernel_rfl) trivial ?_
  refine run_ret1 10 #[iV (-6), iV (-5)] (some 5) (.agg #[iV (-6), iV (-5)]) (by kernel_rfl) (fun w1 k1 h1 => span_any (-6) (-5) w1) ?_
  refine run_ret1 10 #[iV 2, iV 3] (some 6) (.agg #[iV 2, iV 3]) (by kernel_rfl) (fun w1 k1 h1 => span_any 2 3 w1) ?_
  refine run_auto [] 1 [] [] [0, 4, 7] [0] (st' := ⟨[(0, pA b1), (4, .agg #[iV 40, iV 44, iV 4, iV 4, iV 10, iV 12]), (7, .agg #[iV (-6), iV (-5), iV 2, iV 3, iV 0, iV 0])], [(b1, aO #[.slice none 0 0, iV 0, iV 0, .slice none 0 0] 33)]⟩) (acc := []) (by kernel_rfl) (by kernel_rfl) trivial ?_
  refine run_new (aO #[iV 40, iV 44, iV 4, iV 4, iV 10, iV 12, iV (-6), iV (-5), iV 2, iV 3, iV 0, iV 0] 54) (fun b2 => sV b2 2 2) (some 8) (fun _ => by kernel_rfl) (fun b2 hb2 => ?_)
  refine run_ret1 29 #[iV 1, iV 4, iV 8, iV 10] (some 9) (.agg #[iV 1, iV 4, iV 8, iV 10]) (by kernel_rfl) (fun w1 k1 h1 => touch_any 1 4 8 10 w1) ?_
  refine run_new (aO #[iV 1, iV 4, iV 8, iV 10] 61) (fun b3 => sV b3 1 1) (some 10) (fun _ => by kernel_rfl) (fun b3 hb3 => ?_)
  refine run_auto [] 3 [] [2] [0] [0, 1, 2] (st' := ⟨[(0, pA b1)], [(b3, aO #[iV 1, iV 4, iV 8, iV 10] 61), (b2, aO #[iV 40, iV 44, iV 4, iV 4, iV 10, iV 12, iV (-6), iV (-5), iV 2, iV 3, iV 0, iV 0] 54), (b1, aO #[sV b2 2 2, iV 5, iV 12, sV b3 1 1] 33)]⟩) (acc := [(pA b1, pA b1)]) (by kernel_rfl) (by kernel_rfl) ⟨rfl, trivial⟩ ?_
  refine run_endP (fn := f12) rfl (Nat.le_refl _) (by kernel_rfl) [2] [.agg #[sV b2 2 2, iV 5, iV 12, sV b3 1 1]] (e := [(pA b1, pA b1)]) (by kernel_rfl) ⟨rfl, trivial⟩ (fun w1 k1 h1 hne1 => ?_)
  refine ⟨(b3, b2), trivial, rfl, k1.keeps (fun _ h => h), fun p hp => ?_, ?_⟩
  simp only [List.mem_cons, List.not_mem_nil, or_false] at hp
  rcases hp with rfl | rfl
  · exact ⟨h1 (b3, _) (List.mem_of_getElem? (i := 0) rfl), hb3⟩
  · exact ⟨h1 (b2, _) (List.mem_of_getElem? (i := 1) rfl), hb2⟩
  · exact List.pairwise_cons.2 ⟨fun y hy => by rw [List.mem_singleton] at hy; subst hy; exact (List.pairwise_cons.1 hne1).1 _ (List.mem_of_getElem? (i := 0) rfl), List.pairwise_singleton _ _⟩

theorem eq_span_fields : Try.prog.underlying 23 = some (.struct (Try.prog.fieldsOf 23)) := by kernel_rfl
theorem eq_span_held : Try.prog.stoodInHeld 23 = false := by kernel_rfl
theorem eq_span_list : (Try.prog.fieldsOf 23).toList.map (fun f => (f.name, f.type, f.offset)) = [("Lo", 3, 0), ("Hi", 3, 1)] := by kernel_rfl
theorem eq_span_eq (x0 x1 y0 y1 : Int) (w : World) : (Op.equal 23 (.agg #[.int .i64 x0, .int .i64 x1]) (.agg #[.int .i64 y0, .int .i64 y1])).run Try.prog w = .ok (x0 == y0 && x1 == y1) w := by
  have key : (Op.equalIn 10000 23 (.agg #[.int .i64 x0, .int .i64 x1]) (.agg #[.int .i64 y0, .int .i64 y1])).run Try.prog w = .ok (x0 == y0 && x1 == y1) w := by
    rw [run_equalIn_agg w 9999 _ _ _ eq_span_fields eq_span_held]
    have h := eq_span_list
    match hf : (Try.prog.fieldsOf 23).toList, h with
    | [f0, f1], h =>
      simp only [List.map_cons, List.map_nil, List.cons.injEq, Prod.mk.injEq, and_true] at h
      obtain ⟨⟨q0a, q0b, q0c⟩, q1a, q1b, q1c⟩ := h
      simp [Op.eqFields, q0a, q0b, q0c, q1a, q1b, q1c, go_sem]
      by_cases e0 : x0 = y0 <;> by_cases e1 : x1 = y1 <;> simp [e0, e1]
    | [], h => simp at h
    | [_], h => simp at h
    | _ :: _ :: _ :: _, h => simp at h
  simp only [Op.equal, Op.maxDepth]
  exact key
theorem eq_span (X Y : Operand) (x0 x1 y0 y1 : Int) (w : World) : ((do eqGuard .eql 23 X Y (.agg #[.int .i64 x0, .int .i64 x1]) (.agg #[.int .i64 y0, .int .i64 y1]); binOp .eql 23 (.agg #[.int .i64 x0, .int .i64 x1]) (.agg #[.int .i64 y0, .int .i64 y1])) >>= fun v => pure (Next.value v)).run Try.prog w = .ok (.value (.bool (x0 == y0 && x1 == y1))) w := by
  have hg := run_eqGuard_agg (P := Try.prog) (w := w) .eql 23 X Y #[.int .i64 x0, .int .i64 x1] #[.int .i64 y0, .int .i64 y1] (by kernel_rfl)
  simp only [binOp]
  simp [hg, eq_span_eq, Result.andThen]
theorem eq_span_ne (X Y : Operand) (x0 x1 y0 y1 : Int) (w : World) : ((do eqGuard .neq 23 X Y (.agg #[.int .i64 x0, .int .i64 x1]) (.agg #[.int .i64 y0, .int .i64 y1]); binOp .neq 23 (.agg #[.int .i64 x0, .int .i64 x1]) (.agg #[.int .i64 y0, .int .i64 y1])) >>= fun v => pure (Next.value v)).run Try.prog w = .ok (.value (.bool (!(x0 == y0 && x1 == y1)))) w := by
  have hg := run_eqGuard_agg (P := Try.prog) (w := w) .neq 23 X Y #[.int .i64 x0, .int .i64 x1] #[.int .i64 y0, .int .i64 y1] (by kernel_rfl)
  simp only [binOp]
  simp [hg, eq_span_eq, Result.andThen]

def eqSps (A B : List Sp) : Bool := decide (A = B)
theorem eqSps_len {A B : List Sp} (h : ¬ A.length = B.length) : eqSps A B = false := decide_eq_false fun e => h (by rw [e])
theorem eqSps_ne {A B : List Sp} {k : Nat} (h : ((elS A k).1 == (elS B k).1 && (elS A k).2 == (elS B k).2) = false) : eqSps A B = false := decide_eq_false fun e => by rw [e] at h; simp at h
theorem eqSps_yes {A B : List Sp} (hl : A.length = B.length) (h : ∀ j, j < A.length → elS A j = elS B j) : eqSps A B = true := decide_eq_true (by
  refine List.ext_getElem hl fun i h1 h2 => ?_
  have := h i h1
  unfold elS at this
  rw [List.getElem?_eq_getElem h1, List.getElem?_eq_getElem h2] at this
  exact this)
theorem elS_same {A B : List Sp} {k : Nat} (h : ((elS A k).1 == (elS B k).1 && (elS A k).2 == (elS B k).2) = true) : elS A k = elS B k := by
  simp only [Bool.and_eq_true, beq_iff_eq] at h
  exact Prod.ext h.1 h.2
set_option maxRecDepth 100000 in
theorem rspans_any (A B : List Sp) (a b : Option Addr) (ac bc : Nat) (w : World) (hA : Sps w a A) (hB : Sps w b B) (hal : A.length ≤ maxLen) : Calls Try.prog 20 #[.slice a A.length ac, .slice b B.length bc] w (RetB (eqSps A B) w) := by
  simp only [maxLen] at hal
  refine calls_run (fn := f20) (c := (f20.body).getD .skip) [.slice a A.length ac, .slice b B.length bc] func20 (by kernel_rfl) (fun _ => False) [] (fun _ h => by cases h) (List.Pairwise.nil) 26 (by kernel_rfl) (by simp) ?_
  cases hd1 : ((A.length : Int) != (B.length : Int)) with
  | false =>
    have hp1 : (A.length : Int) = (B.length : Int) := by simpa using hd1
    refine run_auto [(10, .bool false)] 21 [false] [] [0, 1, 4, 5] [] (st' := ⟨[(0, .slice a A.length ac), (1, .slice b B.length bc), (4, .bool false), (5, iV 0)], []⟩) (acc := [(.bool false, .bool false), (.bool ((A.length : Int) != (B.length : Int)), .bool false)]) (by kernel_rfl) (by kernel_rfl) ⟨rfl, (bo hd1), trivial⟩ ?_
    refine run_auto [] 0 [] [] [0, 1, 4, 5] [] (st' := ⟨[(0, .slice a A.length ac), (1, .slice b B.length bc), (4, .bool false), (5, iV 0)], []⟩) (acc := []) (by kernel_rfl) (by kernel_rfl) trivial ?_
    refine run_loop (S := fun (k : Nat) => ⟨[(0, .slice a A.length ac), (1, .slice b B.length bc), (4, .bool false), (5, iV (k : Int))], []⟩) (fun k => k ≤ A.length ∧ ∀ j, j < k → elS A j = elS B j) (fun k => A.length - k) (0) (by kernel_rfl) (⟨Nat.zero_le _, fun _ h => by cases h⟩) (by kernel_rfl) (fun k hI0 J0 hJ0 => ?_)
    obtain ⟨hI1, hI2⟩ := hI0
    cases hd2 : (decide ((k : Int) < (A.length : Int))) with
    | false =>
      have hp2 := of_decide_eq_false hd2
      refine run_auto [(14, .bool false)] 14 [false] [] [4] [] (st' := ⟨[(4, .bool true)], []⟩) (acc := [(.bool false, .bool false), (.bool (decide ((k : Int) < (A.length : Int))), .bool false)]) (by kernel_rfl) (by kernel_rfl) ⟨rfl, (bo hd2), trivial⟩ ?_
      refine run_end (fn := f20) rfl (Nat.le_refl _) (by kernel_rfl) [] [.bool true] (e := []) (by kernel_rfl) trivial (fun w1 k1 h1 => ?_)
      exact ⟨by rw [eqSps_yes (by omega) (fun j hj => hI2 j (by omega))]; rfl, k1.keeps (fun _ h => h)⟩
    | true =>
      have hp2 := of_decide_eq_true hd2
      have hAl : k < A.length := by omega
      have hBl : k < B.length := by omega
      obtain ⟨ba, oa, hba, hca⟩ := hA (by intro h; rw [h] at hAl; cases hAl)
      have hca := hca k hAl
      obtain ⟨bb, ob, hbb, hcb⟩ := hB (by intro h; rw [h] at hBl; cases hBl)
      have hcb := hcb k hBl
      refine run_auto [(14, .bool true)] 13 [true] [] [0, 1, 4, 5] [] (st' := ⟨[(0, .slice a A.length ac), (1, .slice b B.length bc), (4, .bool false), (5, iV (k : Int))], []⟩) (acc := [(.bool true, .bool true), (.bool (decide ((k : Int) < (A.length : Int))), .bool true)]) (by kernel_rfl) (by kernel_rfl) ⟨rfl, (bo hd2), trivial⟩ ?_
      cases hd3 : ((elS A k).1 == (elS B k).1 && (elS A k).2 == (elS B k).2) with
      | false =>
        refine drawW 9 [{ val := fun _ => .slice a A.length ac, slots := [0] },
                  { val := fun _ => iV (k : Int), slots := [5] },
                  { val := fun _ => .pointer (some ⟨ba, oa + k * 2, none⟩), slots := [17, 18] },
                  { val := fun _ => .agg #[iV (elS A k).1, iV (elS A k).2], slots := [19] },
                  { val := fun _ => .slice b B.length bc, slots := [1] },
                  { val := fun _ => iV (k : Int), slots := [5] },
                  { val := fun _ => .pointer (some ⟨bb, ob + k * 2, none⟩), slots := [21, 22] },
                  { val := fun _ => .agg #[iV (elS B k).1, iV (elS B k).2], slots := [23] },
                  { val := fun _ => .bool true, slots := [20, 24] }] [[], [], [0, 1], [0, 1, 2], [], [], [4, 5], [4, 5, 6], [0, 1, 2, 3, 4, 5, 6, 7]] (by kernel_rfl) (by kernel_rfl) (by kernel_rfl) (by kernel_rfl) [0, 1, 4, 5, 25] [] (by kernel_rfl)
                  ⟨⟨⟨⟨⟨⟨⟨⟨⟨trivial,
                  tri_quietW (fun β => []) [] [] (fun β => []) (by kernel_rfl) (fun β extra => by kernel_rfl) (by kernel_rfl) (fun β => trivial)⟩,
                  tri_quietW (fun β => []) [] [] (fun β => []) (by kernel_rfl) (fun β extra => by kernel_rfl) (by kernel_rfl) (fun β => trivial)⟩,
                  tri_vVW (fun β => .pointer (some ⟨ba, oa + k * 2, none⟩)) (fun β => by kernel_rfl) (fun β => (Instr.indexAt 38 (.slice a A.length ac) (iV (k : Int)) >>= fun v => pure (Next.value v))) (by kernel_rfl) (fun β extra => by kernel_rfl) (fun β => by kernel_rfl) (fun β w1 k1 h1 => (by rw [hba]; exact idx_off (e := 23) (n := 2) (by kernel_rfl) (by kernel_rfl) ba oa A.length ac .i64 k hAl (oa + k * 2) (by omega) w1))⟩,
                  tri_vVW (fun β => .agg #[iV (elS A k).1, iV (elS A k).2]) (fun β => by kernel_rfl) (fun β => (Instr.loadAt 23 (.pointer (some ⟨ba, oa + k * 2, none⟩)) >>= fun v => pure (Next.value v))) (by kernel_rfl) (fun β extra => by kernel_rfl) (fun β => by kernel_rfl) (fun β w1 k1 h1 => load_in (off := 0) k1 (fun h => h) [iV (elS A k).1, iV (elS A k).2] (c2 hca.1 hca.2) (by kernel_rfl))⟩,
                  tri_quietW (fun β => []) [] [] (fun β => []) (by kernel_rfl) (fun β extra => by kernel_rfl) (by kernel_rfl) (fun β => trivial)⟩,
                  tri_quietW (fun β => []) [] [] (fun β => []) (by kernel_rfl) (fun β extra => by kernel_rfl) (by kernel_rfl) (fun β => trivial)⟩,
                  tri_vVW (fun β => .pointer (some ⟨bb, ob + k * 2, none⟩)) (fun β => by kernel_rfl) (fun β => (Instr.indexAt 38 (.slice b B.length bc) (iV (k : Int)) >>= fun v => pure (Next.value v))) (by kernel_rfl) (fun β extra => by kernel_rfl) (fun β => by kernel_rfl) (fun β w1 k1 h1 => (by rw [hbb]; exact idx_off (e := 23) (n := 2) (by kernel_rfl) (by kernel_rfl) bb ob B.length bc .i64 k hBl (ob + k * 2) (by omega) w1))⟩,
                  tri_vVW (fun β => .agg #[iV (elS B k).1, iV (elS B k).2]) (fun β => by kernel_rfl) (fun β => (Instr.loadAt 23 (.pointer (some ⟨bb, ob + k * 2, none⟩)) >>= fun v => pure (Next.value v))) (by kernel_rfl) (fun β extra => by kernel_rfl) (fun β => by kernel_rfl) (fun β w1 k1 h1 => load_in (off := 0) k1 (fun h => h) [iV (elS B k).1, iV (elS B k).2] (c2 hcb.1 hcb.2) (by kernel_rfl))⟩,
                  tri_vVW (fun β => .bool true) (fun β => by kernel_rfl) (fun β => ((do eqGuard .neq 23 (.tmp 20) (.tmp 24) (.agg #[iV (elS A k).1, iV (elS A k).2]) (.agg #[iV (elS B k).1, iV (elS B k).2]); binOp .neq 23 (.agg #[iV (elS A k).1, iV (elS A k).2]) (.agg #[iV (elS B k).1, iV (elS B k).2])) >>= fun v => pure (Next.value v))) (by kernel_rfl) (fun β extra => by kernel_rfl) (fun β => by kernel_rfl) (fun β w1 k1 h1 => (by have h := eq_span_ne (.tmp 20) (.tmp 24) (elS A k).1 (elS A k).2 (elS B k).1 (elS B k).2 w1; rw [hd3] at h; exact h))⟩
                  (fun β => ⟨[(0, .slice a A.length ac), (1, .slice b B.length bc), (4, .bool false), (5, iV (k : Int)), (25, .bool true)], []⟩) (fun β => by kernel_rfl) (fun β1 => ?_)
        refine run_auto [] 5 [true] [] [0, 1, 4, 5] [] (st' := ⟨[(0, .slice a A.length ac), (1, .slice b B.length bc), (4, .bool false), (5, iV (k : Int))], []⟩) (acc := [(.bool true, .bool true)]) (by kernel_rfl) (by kernel_rfl) ⟨rfl, trivial⟩ ?_
        refine run_end (fn := f20) rfl (Nat.le_refl _) (by kernel_rfl) [] [.bool false] (e := []) (by kernel_rfl) trivial (fun w1 k1 h1 => ?_)
        exact ⟨by rw [eqSps_ne hd3]; rfl, k1.keeps (fun _ h => h)⟩
      | true =>
        refine drawW 9 [{ val := fun _ => .slice a A.length ac, slots := [0] },
                  { val := fun _ => iV (k : Int), slots := [5] },
                  { val := fun _ => .pointer (some ⟨ba, oa + k * 2, none⟩), slots := [17, 18] },
                  { val := fun _ => .agg #[iV (elS A k).1, iV (elS A k).2], slots := [19] },
                  { val := fun _ => .slice b B.length bc, slots := [1] },
                  { val := fun _ => iV (k : Int), slots := [5] },
                  { val := fun _ => .pointer (some ⟨bb, ob + k * 2, none⟩), slots := [21, 22] },
                  { val := fun _ => .agg #[iV (elS B k).1, iV (elS B k).2], slots := [23] },
                  { val := fun _ => .bool false, slots := [20, 24] }] [[], [], [0, 1], [0, 1, 2], [], [], [4, 5], [4, 5, 6], [0, 1, 2, 3, 4, 5, 6, 7]] (by kernel_rfl) (by kernel_rfl) (by kernel_rfl) (by kernel_rfl) [0, 1, 4, 5, 25] [] (by kernel_rfl)
                  ⟨⟨⟨⟨⟨⟨⟨⟨⟨trivial,
                  tri_quietW (fun β => []) [] [] (fun β => []) (by kernel_rfl) (fun β extra => by kernel_rfl) (by kernel_rfl) (fun β => trivial)⟩,
                  tri_quietW (fun β => []) [] [] (fun β => []) (by kernel_rfl) (fun β extra => by kernel_rfl) (by kernel_rfl) (fun β => trivial)⟩,
                  tri_vVW (fun β => .pointer (some ⟨ba, oa + k * 2, none⟩)) (fun β => by kernel_rfl) (fun β => (Instr.indexAt 38 (.slice a A.length ac) (iV (k : Int)) >>= fun v => pure (Next.value v))) (by kernel_rfl) (fun β extra => by kernel_rfl) (fun β => by kernel_rfl) (fun β w1 k1 h1 => (by rw [hba]; exact idx_off (e := 23) (n := 2) (by kernel_rfl) (by kernel_rfl) ba oa A.length ac .i64 k hAl (oa + k * 2) (by omega) w1))⟩,
                  tri_vVW (fun β => .agg #[iV (elS A k).1, iV (elS A k).2]) (fun β => by kernel_rfl) (fun β => (Instr.loadAt 23 (.pointer (some ⟨ba, oa + k * 2, none⟩)) >>= fun v => pure (Next.value v))) (by kernel_rfl) (fun β extra => by kernel_rfl) (fun β => by kernel_rfl) (fun β w1 k1 h1 => load_in (off := 0) k1 (fun h => h) [iV (elS A k).1, iV (elS A k).2] (c2 hca.1 hca.2) (by kernel_rfl))⟩,
                  tri_quietW (fun β => []) [] [] (fun β => []) (by kernel_rfl) (fun β extra => by kernel_rfl) (by kernel_rfl) (fun β => trivial)⟩,
                  tri_quietW (fun β => []) [] [] (fun β => []) (by kernel_rfl) (fun β extra => by kernel_rfl) (by kernel_rfl) (fun β => trivial)⟩,
                  tri_vVW (fun β => .pointer (some ⟨bb, ob + k * 2, none⟩)) (fun β => by kernel_rfl) (fun β => (Instr.indexAt 38 (.slice b B.length bc) (iV (k : Int)) >>= fun v => pure (Next.value v))) (by kernel_rfl) (fun β extra => by kernel_rfl) (fun β => by kernel_rfl) (fun β w1 k1 h1 => (by rw [hbb]; exact idx_off (e := 23) (n := 2) (by kernel_rfl) (by kernel_rfl) bb ob B.length bc .i64 k hBl (ob + k * 2) (by omega) w1))⟩,
                  tri_vVW (fun β => .agg #[iV (elS B k).1, iV (elS B k).2]) (fun β => by kernel_rfl) (fun β => (Instr.loadAt 23 (.pointer (some ⟨bb, ob + k * 2, none⟩)) >>= fun v => pure (Next.value v))) (by kernel_rfl) (fun β extra => by kernel_rfl) (fun β => by kernel_rfl) (fun β w1 k1 h1 => load_in (off := 0) k1 (fun h => h) [iV (elS B k).1, iV (elS B k).2] (c2 hcb.1 hcb.2) (by kernel_rfl))⟩,
                  tri_vVW (fun β => .bool false) (fun β => by kernel_rfl) (fun β => ((do eqGuard .neq 23 (.tmp 20) (.tmp 24) (.agg #[iV (elS A k).1, iV (elS A k).2]) (.agg #[iV (elS B k).1, iV (elS B k).2]); binOp .neq 23 (.agg #[iV (elS A k).1, iV (elS A k).2]) (.agg #[iV (elS B k).1, iV (elS B k).2])) >>= fun v => pure (Next.value v))) (by kernel_rfl) (fun β extra => by kernel_rfl) (fun β => by kernel_rfl) (fun β w1 k1 h1 => (by have h := eq_span_ne (.tmp 20) (.tmp 24) (elS A k).1 (elS A k).2 (elS B k).1 (elS B k).2 w1; rw [hd3] at h; exact h))⟩
                  (fun β => ⟨[(0, .slice a A.length ac), (1, .slice b B.length bc), (4, .bool false), (5, iV (k : Int)), (25, .bool false)], []⟩) (fun β => by kernel_rfl) (fun β1 => ?_)
        refine run_auto [(16, iV ((k + 1 : Nat) : Int))] 8 [false] [] [0, 1, 4, 5] [] (st' := ⟨[(0, .slice a A.length ac), (1, .slice b B.length bc), (4, .bool false), (5, iV ((k + 1 : Nat) : Int))], []⟩) (acc := [(iV (IntKind.i64.wrap ((k : Int) + 1)), iV ((k + 1 : Nat) : Int)), (.bool false, .bool false)]) (by kernel_rfl) (by kernel_rfl) ⟨(wr (by omega) (by omega)), rfl, trivial⟩ ?_
        exact run_round (by kernel_rfl) (hJ0 (k + 1) (⟨by omega, fun j hj => (Nat.lt_succ_iff_lt_or_eq.1 hj).elim (hI2 j) (fun h => h ▸ elS_same hd3)⟩) (by omega))
  | true =>
    have hp1 : ¬ (A.length : Int) = (B.length : Int) := by simpa using hd1
    refine run_auto [(10, .bool true)] 18 [true] [] [0, 1, 4] [] (st' := ⟨[(0, .slice a A.length ac), (1, .slice b B.length bc), (4, .bool false)], []⟩) (acc := [(.bool true, .bool true), (.bool ((A.length : Int) != (B.length : Int)), .bool true)]) (by kernel_rfl) (by kernel_rfl) ⟨rfl, (bo hd1), trivial⟩ ?_
    refine run_end (fn := f20) rfl (Nat.le_refl _) (by kernel_rfl) [] [.bool false] (e := []) (by kernel_rfl) trivial (fun w1 k1 h1 => ?_)
    exact ⟨by rw [eqSps_len (by omega)]; rfl, k1.keeps (fun _ h => h)⟩

set_option maxRecDepth 100000 in
theorem rin_any (n a b : Int) (w : World)  : Calls Try.prog 61 #[.int .i64 n, .int .i64 a, .int .i64 b] w (RetB (inI n a b) w) := by
  refine calls_run (fn := f61) (c := (f61.body).getD .skip) [.int .i64 n, .int .i64 a, .int .i64 b] func61 (by kernel_rfl) (fun _ => False) [] (fun _ h => by cases h) (List.Pairwise.nil) 15 (by kernel_rfl) (by simp) ?_
  cases hd1 : (decide (a ≤ n)) with
  | false =>
    have hp1 := of_decide_eq_false hd1
    refine run_auto [(9, .bool false)] 16 [] [] [6] [] (st' := ⟨[(6, .bool false)], []⟩) (acc := [(.bool (decide (a ≤ n)), .bool false)]) (by kernel_rfl) (by kernel_rfl) ⟨(bo hd1), trivial⟩ ?_
    refine run_end (fn := f61) rfl (Nat.le_refl _) (by kernel_rfl) [] [.bool false] (e := []) (by kernel_rfl) trivial (fun w1 k1 h1 => ?_)
    exact ⟨by simp only [resVal]; congr 2; simp only [inI]; simp; omega, k1.keeps (fun _ h => h)⟩
  | true =>
    have hp1 := of_decide_eq_true hd1
    cases hd2 : (decide (n ≤ b)) with
    | false =>
      have hp2 := of_decide_eq_false hd2
      refine run_auto [(9, .bool true), (13, .bool false)] 16 [] [] [6] [] (st' := ⟨[(6, .bool false)], []⟩) (acc := [(.bool (decide (n ≤ b)), .bool false), (.bool (decide (a ≤ n)), .bool true)]) (by kernel_rfl) (by kernel_rfl) ⟨(bo hd2), (bo hd1), trivial⟩ ?_
      refine run_end (fn := f61) rfl (Nat.le_refl _) (by kernel_rfl) [] [.bool false] (e := []) (by kernel_rfl) trivial (fun w1 k1 h1 => ?_)
      exact ⟨by simp only [resVal]; congr 2; simp only [inI]; simp; omega, k1.keeps (fun _ h => h)⟩
    | true =>
      have hp2 := of_decide_eq_true hd2
      refine run_auto [(9, .bool true), (13, .bool true)] 16 [] [] [6] [] (st' := ⟨[(6, .bool true)], []⟩) (acc := [(.bool (decide (n ≤ b)), .bool true), (.bool (decide (a ≤ n)), .bool true)]) (by kernel_rfl) (by kernel_rfl) ⟨(bo hd2), (bo hd1), trivial⟩ ?_
      refine run_end (fn := f61) rfl (Nat.le_refl _) (by kernel_rfl) [] [.bool true] (e := []) (by kernel_rfl) trivial (fun w1 k1 h1 => ?_)
      exact ⟨by simp only [resVal]; congr 2; simp only [inI]; simp; omega, k1.keeps (fun _ h => h)⟩

set_option maxRecDepth 100000 in
theorem rspan_any (a b lo hi : Int) (w : World)  : Calls Try.prog 62 #[.agg #[.int .i64 a, .int .i64 b], .int .i64 lo, .int .i64 hi] w (RetB (spI (a, b) lo hi) w) := by
  refine calls_run (fn := f62) (c := (f62.body).getD .skip) [.agg #[.int .i64 a, .int .i64 b], .int .i64 lo, .int .i64 hi] func62 (by kernel_rfl) (fun _ => False) [] (fun _ h => by cases h) (List.Pairwise.nil) 24 (by kernel_rfl) (by simp) ?_
  refine run_auto [] 2 [] [] [0, 1, 2] [] (st' := ⟨[(0, .agg #[iV a, iV b]), (1, iV lo), (2, iV hi)], []⟩) (acc := []) (by kernel_rfl) (by kernel_rfl) trivial ?_
  refine run_new (aO #[iV a, iV b] 23) (fun b1 => pA b1) (some 3) (fun _ => by kernel_rfl) (fun b1 hb1 => ?_)
  cases hd1 : (decide (lo ≤ a)) with
  | false =>
    have hp1 := of_decide_eq_false hd1
    refine run_auto [(10, .bool false)] 23 [] [0] [6] [] (st' := ⟨[(6, .bool false)], []⟩) (acc := [(.bool (decide (lo ≤ a)), .bool false), (pA b1, pA b1)]) (by kernel_rfl) (by kernel_rfl) ⟨(bo hd1), rfl, trivial⟩ ?_
    refine run_end (fn := f62) rfl (Nat.le_refl _) (by kernel_rfl) [] [.bool false] (e := []) (by kernel_rfl) trivial (fun w1 k1 h1 => ?_)
    exact ⟨by simp only [resVal]; congr 2; simp only [spI]; simp; omega, k1.keeps (fun _ h => h)⟩
  | true =>
    have hp1 := of_decide_eq_true hd1
    cases hd2 : (decide (a ≤ b)) with
    | false =>
      have hp2 := of_decide_eq_false hd2
      refine run_auto [(10, .bool true), (16, .bool false)] 23 [] [0, 0, 0] [6] [] (st' := ⟨[(6, .bool false)], []⟩) (acc := [(.bool (decide (a ≤ b)), .bool false), (pA b1, pA b1), (pA b1, pA b1), (.bool (decide (lo ≤ a)), .bool true), (pA b1, pA b1)]) (by kernel_rfl) (by kernel_rfl) ⟨(bo hd2), rfl, rfl, (bo hd1), rfl, trivial⟩ ?_
      refine run_end (fn := f62) rfl (Nat.le_refl _) (by kernel_rfl) [] [.bool false] (e := []) (by kernel_rfl) trivial (fun w1 k1 h1 => ?_)
      exact ⟨by simp only [resVal]; congr 2; simp only [spI]; simp; omega, k1.keeps (fun _ h => h)⟩
    | true =>
      have hp2 := of_decide_eq_true hd2
      cases hd3 : (decide (b ≤ hi)) with
      | false =>
        have hp3 := of_decide_eq_false hd3
        refine run_auto [(10, .bool true), (16, .bool true), (22, .bool false)] 23 [] [0, 0, 0, 0] [6] [] (st' := ⟨[(6, .bool false)], []⟩) (acc := [(.bool (decide (b ≤ hi)), .bool false), (pA b1, pA b1), (.bool (decide (a ≤ b)), .bool true), (pA b1, pA b1), (pA b1, pA b1), (.bool (decide (lo ≤ a)), .bool true), (pA b1, pA b1)]) (by kernel_rfl) (by kernel_rfl) ⟨(bo hd3), rfl, (bo hd2), rfl, rfl, (bo hd1), rfl, trivial⟩ ?_
        refine run_end (fn := f62) rfl (Nat.le_refl _) (by kernel_rfl) [] [.bool false] (e := []) (by kernel_rfl) trivial (fun w1 k1 h1 => ?_)
        exact ⟨by simp only [resVal]; congr 2; simp only [spI]; simp; omega, k1.keeps (fun _ h => h)⟩
      | true =>
        have hp3 := of_decide_eq_true hd3
        refine run_auto [(10, .bool true), (16, .bool true), (22, .bool true)] 23 [] [0, 0, 0, 0] [6] [] (st' := ⟨[(6, .bool true)], []⟩) (acc := [(.bool (decide (b ≤ hi)), .bool true), (pA b1, pA b1), (.bool (decide (a ≤ b)), .bool true), (pA b1, pA b1), (pA b1, pA b1), (.bool (decide (lo ≤ a)), .bool true), (pA b1, pA b1)]) (by kernel_rfl) (by kernel_rfl) ⟨(bo hd3), rfl, (bo hd2), rfl, rfl, (bo hd1), rfl, trivial⟩ ?_
        refine run_end (fn := f62) rfl (Nat.le_refl _) (by kernel_rfl) [] [.bool true] (e := []) (by kernel_rfl) trivial (fun w1 k1 h1 => ?_)
        exact ⟨by simp only [resVal]; congr 2; simp only [spI]; simp; omega, k1.keeps (fun _ h => h)⟩

set_option maxRecDepth 100000 in
theorem rblock_any (p : Sb) (n : Int) (w : World) (hl : p.bs.length ≤ maxLen) : Calls Try.prog 63 #[.agg #[.slice p.ba p.bs.length p.bc, .int .i64 p.near, .int .i64 p.last, .slice p.ta p.ts.length p.tc], .int .i64 n] w (RetB (inI n 0 ((p.bs.length : Int) - 1)) w) := by
  simp only [maxLen] at hl
  refine calls_run (fn := f63) (c := (f63.body).getD .skip) [.agg #[.slice p.ba p.bs.length p.bc, .int .i64 p.near, .int .i64 p.last, .slice p.ta p.ts.length p.tc], .int .i64 n] func63 (by kernel_rfl) (fun _ => False) [] (fun _ h => by cases h) (List.Pairwise.nil) 11 (by kernel_rfl) (by simp) ?_
  refine run_auto [] 2 [] [] [0, 1] [] (st' := ⟨[(0, .agg #[.slice p.ba p.bs.length p.bc, iV p.near, iV p.last, .slice p.ta p.ts.length p.tc]), (1, iV n)], []⟩) (acc := []) (by kernel_rfl) (by kernel_rfl) trivial ?_
  refine run_new (aO #[.slice p.ba p.bs.length p.bc, iV p.near, iV p.last, .slice p.ta p.ts.length p.tc] 33) (fun b1 => pA b1) (some 2) (fun _ => by kernel_rfl) (fun b1 hb1 => ?_)
  refine run_auto [(9, iV ((p.bs.length : Int) - 1))] 9 [] [0] [4, 5, 9] [] (st' := ⟨[(4, .bool false), (5, iV n), (9, iV ((p.bs.length : Int) - 1))], []⟩) (acc := [(iV (IntKind.i64.wrap ((p.bs.length : Int) - 1)), iV ((p.bs.length : Int) - 1)), (pA b1, pA b1)]) (by kernel_rfl) (by kernel_rfl) ⟨(wr (by omega) (by omega)), rfl, trivial⟩ ?_
  cases hd1 : (inI n 0 ((p.bs.length : Int) - 1)) with
  | false =>
    refine run_ret1 61 #[iV n, iV 0, iV ((p.bs.length : Int) - 1)] (some 10) (.bool false) (by kernel_rfl) (fun w1 k1 h1 => (by have h := rin_any n 0 ((p.bs.length : Int) - 1) w1; rw [hd1] at h; exact h)) ?_
    refine run_auto [] 2 [] [] [4] [] (st' := ⟨[(4, .bool false)], []⟩) (acc := []) (by kernel_rfl) (by kernel_rfl) trivial ?_
    refine run_end (fn := f63) rfl (Nat.le_refl _) (by kernel_rfl) [] [.bool false] (e := []) (by kernel_rfl) trivial (fun w1 k1 h1 => ?_)
    exact ⟨rfl, k1.keeps (fun _ h => h)⟩
  | true =>
    refine run_ret1 61 #[iV n, iV 0, iV ((p.bs.length : Int) - 1)] (some 10) (.bool true) (by kernel_rfl) (fun w1 k1 h1 => (by have h := rin_any n 0 ((p.bs.length : Int) - 1) w1; rw [hd1] at h; exact h)) ?_
    refine run_auto [] 2 [] [] [4] [] (st' := ⟨[(4, .bool true)], []⟩) (acc := []) (by kernel_rfl) (by kernel_rfl) trivial ?_
    refine run_end (fn := f63) rfl (Nat.le_refl _) (by kernel_rfl) [] [.bool true] (e := []) (by kernel_rfl) trivial (fun w1 k1 h1 => ?_)
    exact ⟨rfl, k1.keeps (fun _ h => h)⟩

set_option maxRecDepth 100000 in
theorem rminute_any (p : Sb) (n : Int) (w : World)  : Calls Try.prog 64 #[.agg #[.slice p.ba p.bs.length p.bc, .int .i64 p.near, .int .i64 p.last, .slice p.ta p.ts.length p.tc], .int .i64 n] w (RetB (inI n 0 p.last) w) := by
  refine calls_run (fn := f64) (c := (f64.body).getD .skip) [.agg #[.slice p.ba p.bs.length p.bc, .int .i64 p.near, .int .i64 p.last, .slice p.ta p.ts.length p.tc], .int .i64 n] func64 (by kernel_rfl) (fun _ => False) [] (fun _ h => by cases h) (List.Pairwise.nil) 9 (by kernel_rfl) (by simp) ?_
  refine run_auto [] 2 [] [] [0, 1] [] (st' := ⟨[(0, .agg #[.slice p.ba p.bs.length p.bc, iV p.near, iV p.last, .slice p.ta p.ts.length p.tc]), (1, iV n)], []⟩) (acc := []) (by kernel_rfl) (by kernel_rfl) trivial ?_
  refine run_new (aO #[.slice p.ba p.bs.length p.bc, iV p.near, iV p.last, .slice p.ta p.ts.length p.tc] 33) (fun b1 => pA b1) (some 2) (fun _ => by kernel_rfl) (fun b1 hb1 => ?_)
  refine run_auto [] 7 [] [0] [4, 5, 7] [] (st' := ⟨[(4, .bool false), (5, iV n), (7, iV p.last)], []⟩) (acc := [(pA b1, pA b1)]) (by kernel_rfl) (by kernel_rfl) ⟨rfl, trivial⟩ ?_
  cases hd1 : (inI n 0 p.last) with
  | false =>
    refine run_ret1 61 #[iV n, iV 0, iV p.last] (some 8) (.bool false) (by kernel_rfl) (fun w1 k1 h1 => (by have h := rin_any n 0 p.last w1; rw [hd1] at h; exact h)) ?_
    refine run_auto [] 2 [] [] [4] [] (st' := ⟨[(4, .bool false)], []⟩) (acc := []) (by kernel_rfl) (by kernel_rfl) trivial ?_
    refine run_end (fn := f64) rfl (Nat.le_refl _) (by kernel_rfl) [] [.bool false] (e := []) (by kernel_rfl) trivial (fun w1 k1 h1 => ?_)
    exact ⟨rfl, k1.keeps (fun _ h => h)⟩
  | true =>
    refine run_ret1 61 #[iV n, iV 0, iV p.last] (some 8) (.bool true) (by kernel_rfl) (fun w1 k1 h1 => (by have h := rin_any n 0 p.last w1; rw [hd1] at h; exact h)) ?_
    refine run_auto [] 2 [] [] [4] [] (st' := ⟨[(4, .bool true)], []⟩) (acc := []) (by kernel_rfl) (by kernel_rfl) trivial ?_
    refine run_end (fn := f64) rfl (Nat.le_refl _) (by kernel_rfl) [] [.bool true] (e := []) (by kernel_rfl) trivial (fun w1 k1 h1 => ?_)
    exact ⟨rfl, k1.keeps (fun _ h => h)⟩

set_option maxRecDepth 100000 in
theorem rsettle_any (p : Sb) (w : World) (hp : p.In w) : Calls Try.prog 22 #[.agg #[.slice p.ba p.bs.length p.bc, .int .i64 p.near, .int .i64 p.last, .slice p.ta p.ts.length p.tc]] w (RetB p.n.ok w) := by
  have hlb := hp.lb
  have hlt0 := hp.lt
  simp only [maxLen] at hlb hlt0
  refine calls_run (fn := f22) (c := (f22.body).getD .skip) [.agg #[.slice p.ba p.bs.length p.bc, .int .i64 p.near, .int .i64 p.last, .slice p.ta p.ts.length p.tc]] func22 (by kernel_rfl) (fun _ => False) [] (fun _ h => by cases h) (List.Pairwise.nil) 88 (by kernel_rfl) (by simp) ?_
  refine run_auto [] 2 [] [] [0] [] (st' := ⟨[(0, .agg #[.slice p.ba p.bs.length p.bc, iV p.near, iV p.last, .slice p.ta p.ts.length p.tc])], []⟩) (acc := []) (by kernel_rfl) (by kernel_rfl) trivial ?_
  refine run_new (aO #[.slice p.ba p.bs.length p.bc, iV p.near, iV p.last, .slice p.ta p.ts.length p.tc] 33) (fun b1 => pA b1) (some 1) (fun _ => by kernel_rfl) (fun b1 hb1 => ?_)
  refine run_auto [] 8 [] [0] [1, 2, 9] [0] (st' := ⟨[(1, pA b1), (2, .bool false), (9, iV (p.bs.length : Int))], [(b1, aO #[.slice p.ba p.bs.length p.bc, iV p.near, iV p.last, .slice p.ta p.ts.length p.tc] 33)]⟩) (acc := [(pA b1, pA b1)]) (by kernel_rfl) (by kernel_rfl) ⟨rfl, trivial⟩ ?_
  cases hd1 : (inI (p.bs.length : Int) 1 4) with
  | false =>
    refine run_ret1 61 #[iV (p.bs.length : Int), iV 1, iV 4] (some 10) (.bool false) (by kernel_rfl) (fun w1 k1 h1 => (by have h := rin_any (p.bs.length : Int) 1 4 w1; rw [hd1] at h; exact h)) ?_
    refine run_auto [(11, .bool true)] 25 [true] [] [1, 2] [0] (st' := ⟨[(1, pA b1), (2, .bool false)], [(b1, aO #[.slice p.ba p.bs.length p.bc, iV p.near, iV p.last, .slice p.ta p.ts.length p.tc] 33)]⟩) (acc := [(.bool true, .bool true), (.bool true, .bool true)]) (by kernel_rfl) (by kernel_rfl) ⟨rfl, rfl, trivial⟩ ?_
    refine run_end (fn := f22) rfl (Nat.le_refl _) (by kernel_rfl) [] [.bool false] (e := []) (by kernel_rfl) trivial (fun w1 k1 h1 => ?_)
    have h : p.n.ok = false := by
      unfold Sn.ok Sb.n
      dsimp only
      have hq := hd1
      unfold inI at hq
      rw [show (decide (1 ≤ (p.bs.length : Int)) && decide ((p.bs.length : Int) ≤ 4)) = false from by rw [← Bool.decide_and]; exact hq]
      simp
    exact ⟨by rw [h]; rfl, k1.keeps (fun _ h => h)⟩
  | true =>
    refine run_ret1 61 #[iV (p.bs.length : Int), iV 1, iV 4] (some 10) (.bool true) (by kernel_rfl) (fun w1 k1 h1 => (by have h := rin_any (p.bs.length : Int) 1 4 w1; rw [hd1] at h; exact h)) ?_
    refine run_auto [(11, .bool false)] 4 [] [0] [1, 2, 12, 14] [0] (st' := ⟨[(1, pA b1), (2, .bool false), (12, .bool false), (14, iV p.near)], [(b1, aO #[.slice p.ba p.bs.length p.bc, iV p.near, iV p.last, .slice p.ta p.ts.length p.tc] 33)]⟩) (acc := [(pA b1, pA b1), (.bool false, .bool false)]) (by kernel_rfl) (by kernel_rfl) ⟨rfl, rfl, trivial⟩ ?_
    cases hd2 : (inI p.near 0 20) with
    | false =>
      refine run_ret1 61 #[iV p.near, iV 0, iV 20] (some 15) (.bool false) (by kernel_rfl) (fun w1 k1 h1 => (by have h := rin_any p.near 0 20 w1; rw [hd2] at h; exact h)) ?_
      refine run_auto [(16, .bool true)] 20 [true] [] [1, 2] [0] (st' := ⟨[(1, pA b1), (2, .bool false)], [(b1, aO #[.slice p.ba p.bs.length p.bc, iV p.near, iV p.last, .slice p.ta p.ts.length p.tc] 33)]⟩) (acc := [(.bool true, .bool true), (.bool true, .bool true)]) (by kernel_rfl) (by kernel_rfl) ⟨rfl, rfl, trivial⟩ ?_
      refine run_end (fn := f22) rfl (Nat.le_refl _) (by kernel_rfl) [] [.bool false] (e := []) (by kernel_rfl) trivial (fun w1 k1 h1 => ?_)
      have h : p.n.ok = false := by
        unfold Sn.ok Sb.n
        dsimp only
        have hq := hd1
        unfold inI at hq
        rw [show (decide (1 ≤ (p.bs.length : Int)) && decide ((p.bs.length : Int) ≤ 4)) = true from by rw [← Bool.decide_and]; exact hq]
        rw [hd2]
        simp
      exact ⟨by rw [h]; rfl, k1.keeps (fun _ h => h)⟩
    | true =>
      refine run_ret1 61 #[iV p.near, iV 0, iV 20] (some 15) (.bool true) (by kernel_rfl) (fun w1 k1 h1 => (by have h := rin_any p.near 0 20 w1; rw [hd2] at h; exact h)) ?_
      refine run_auto [(16, .bool false)] 5 [] [0] [1, 2, 18, 20] [0] (st' := ⟨[(1, pA b1), (2, .bool false), (18, .bool false), (20, iV p.last)], [(b1, aO #[.slice p.ba p.bs.length p.bc, iV p.near, iV p.last, .slice p.ta p.ts.length p.tc] 33)]⟩) (acc := [(pA b1, pA b1), (.bool false, .bool false)]) (by kernel_rfl) (by kernel_rfl) ⟨rfl, rfl, trivial⟩ ?_
      cases hd3 : (inI p.last 1 60) with
      | false =>
        refine run_ret1 61 #[iV p.last, iV 1, iV 60] (some 21) (.bool false) (by kernel_rfl) (fun w1 k1 h1 => (by have h := rin_any p.last 1 60 w1; rw [hd3] at h; exact h)) ?_
        refine run_auto [(22, .bool true)] 14 [true] [] [1, 2] [0] (st' := ⟨[(1, pA b1), (2, .bool false)], [(b1, aO #[.slice p.ba p.bs.length p.bc, iV p.near, iV p.last, .slice p.ta p.ts.length p.tc] 33)]⟩) (acc := [(.bool true, .bool true), (.bool true, .bool true)]) (by kernel_rfl) (by kernel_rfl) ⟨rfl, rfl, trivial⟩ ?_
        refine run_end (fn := f22) rfl (Nat.le_refl _) (by kernel_rfl) [] [.bool false] (e := []) (by kernel_rfl) trivial (fun w1 k1 h1 => ?_)
        have h : p.n.ok = false := by
          unfold Sn.ok Sb.n
          dsimp only
          have hq := hd1
          unfold inI at hq
          rw [show (decide (1 ≤ (p.bs.length : Int)) && decide ((p.bs.length : Int) ≤ 4)) = true from by rw [← Bool.decide_and]; exact hq]
          rw [hd2, hd3]
          simp
        exact ⟨by rw [h]; rfl, k1.keeps (fun _ h => h)⟩
      | true =>
        refine run_ret1 61 #[iV p.last, iV 1, iV 60] (some 21) (.bool true) (by kernel_rfl) (fun w1 k1 h1 => (by have h := rin_any p.last 1 60 w1; rw [hd3] at h; exact h)) ?_
        cases hd4 : (decide (6 < (p.ts.length : Int))) with
        | false =>
          have hp4 := of_decide_eq_false hd4
          refine run_auto [(22, .bool false), (28, .bool false)] 17 [false] [0] [1, 2, 3] [0] (st' := ⟨[(1, pA b1), (2, .bool false), (3, iV 0)], [(b1, aO #[.slice p.ba p.bs.length p.bc, iV p.near, iV p.last, .slice p.ta p.ts.length p.tc] 33)]⟩) (acc := [(.bool false, .bool false), (.bool (decide (6 < (p.ts.length : Int))), .bool false), (pA b1, pA b1), (.bool false, .bool false)]) (by kernel_rfl) (by kernel_rfl) ⟨rfl, (bo hd4), rfl, rfl, trivial⟩ ?_
          refine run_auto [] 0 [] [] [1, 2, 3] [0] (st' := ⟨[(1, pA b1), (2, .bool false), (3, iV 0)], [(b1, aO #[.slice p.ba p.bs.length p.bc, iV p.near, iV p.last, .slice p.ta p.ts.length p.tc] 33)]⟩) (acc := []) (by kernel_rfl) (by kernel_rfl) trivial ?_
          refine run_loop (S := fun (k : Nat) => ⟨[(1, pA b1), (2, .bool false), (3, iV (k : Int))], [(b1, aO #[.slice p.ba p.bs.length p.bc, iV p.near, iV p.last, .slice p.ta p.ts.length p.tc] 33)]⟩) (fun k => k ≤ p.bs.length ∧ ∀ j, j < k → vBk (elB p.bs j) = true) (fun k => p.bs.length - k) (0) (by kernel_rfl) (⟨Nat.zero_le _, fun _ h => by cases h⟩) (by kernel_rfl) (fun k hI0 J0 hJ0 => ?_)
          obtain ⟨hA1, hA2⟩ := hI0
          cases hd5 : (decide ((k : Int) < (p.bs.length : Int))) with
          | false =>
            have hp5 := of_decide_eq_false hd5
            refine run_auto [(34, .bool false)] 17 [false] [0] [1, 2, 5] [0] (st' := ⟨[(1, pA b1), (2, .bool false), (5, iV 0)], [(b1, aO #[.slice p.ba p.bs.length p.bc, iV p.near, iV p.last, .slice p.ta p.ts.length p.tc] 33)]⟩) (acc := [(.bool false, .bool false), (.bool (decide ((k : Int) < (p.bs.length : Int))), .bool false), (pA b1, pA b1)]) (by kernel_rfl) (by kernel_rfl) ⟨rfl, (bo hd5), rfl, trivial⟩ ?_
            refine run_auto [] 0 [] [] [1, 2, 5] [0] (st' := ⟨[(1, pA b1), (2, .bool false), (5, iV 0)], [(b1, aO #[.slice p.ba p.bs.length p.bc, iV p.near, iV p.last, .slice p.ta p.ts.length p.tc] 33)]⟩) (acc := []) (by kernel_rfl) (by kernel_rfl) trivial ?_
            refine run_loop (S := fun (q : Nat) => ⟨[(1, pA b1), (2, .bool false), (5, iV (q : Int))], [(b1, aO #[.slice p.ba p.bs.length p.bc, iV p.near, iV p.last, .slice p.ta p.ts.length p.tc] 33)]⟩) (fun q => q ≤ p.ts.length ∧ ∀ j, j < q → vTc p.bs.length p.last (elT p.ts j) = true) (fun q => p.ts.length - q) (0) (by kernel_rfl) (⟨Nat.zero_le _, fun _ h => by cases h⟩) (by kernel_rfl) (fun q hI1 J1 hJ1 => ?_)
            obtain ⟨hB1, hB2⟩ := hI1
            cases hd6 : (decide ((q : Int) < (p.ts.length : Int))) with
            | false =>
              have hp6 := of_decide_eq_false hd6
              refine run_auto [(62, .bool false)] 15 [false] [0] [2] [] (st' := ⟨[(2, .bool true)], []⟩) (acc := [(.bool false, .bool false), (.bool (decide ((q : Int) < (p.ts.length : Int))), .bool false), (pA b1, pA b1)]) (by kernel_rfl) (by kernel_rfl) ⟨rfl, (bo hd6), rfl, trivial⟩ ?_
              refine run_end (fn := f22) rfl (Nat.le_refl _) (by kernel_rfl) [] [.bool true] (e := []) (by kernel_rfl) trivial (fun w1 k1 h1 => ?_)
              have h : p.n.ok = true := by
                unfold Sn.ok Sb.n
                dsimp only
                have hq := hd1
                unfold inI at hq
                rw [show (decide (1 ≤ (p.bs.length : Int)) && decide ((p.bs.length : Int) ≤ 4)) = true from by rw [← Bool.decide_and]; exact hq]
                rw [hd2, hd3, (show decide ((p.ts.length : Int) ≤ 6) = true from by have := of_decide_eq_false hd4; exact decide_eq_true (by omega)), (all_yes (p := vBk) (d := (0, 0, 0, 0, 0, 0)) (fun j hj => hA2 j (by omega))), (all_yes (p := vTc p.bs.length p.last) (d := (0, 0, 0, 0)) (fun j hj => hB2 j (by omega)))]
                rfl
              exact ⟨by rw [h]; rfl, k1.keeps (fun _ h => h)⟩
            | true =>
              have hp6 := of_decide_eq_true hd6
              have hltq : q < p.ts.length := by omega
              obtain ⟨beq, oeq, hbeq, hcq⟩ := hp.tk (by intro h; rw [h] at hltq; cases hltq)
              have hcq := hcq q hltq
              refine run_auto [(62, .bool true)] 18 [true] [0, 0] [1, 2, 5, 66, 67] [0] (st' := ⟨[(1, pA b1), (2, .bool false), (5, iV (q : Int)), (66, .slice p.ta p.ts.length p.tc), (67, iV (q : Int))], [(b1, aO #[.slice p.ba p.bs.length p.bc, iV p.near, iV p.last, .slice p.ta p.ts.length p.tc] 33)]⟩) (acc := [(pA b1, pA b1), (.bool true, .bool true), (.bool (decide ((q : Int) < (p.ts.length : Int))), .bool true), (pA b1, pA b1)]) (by kernel_rfl) (by kernel_rfl) ⟨rfl, rfl, (bo hd6), rfl, trivial⟩ ?_
              refine run_v (Instr.indexAt 31 (.slice p.ta p.ts.length p.tc) (iV (q : Int)) >>= fun v => pure (Next.value v)) (some 68) (.pointer (some ⟨beq, oeq + q * 4, none⟩)) (by kernel_rfl) (fun w1 k1 h1 => (by rw [hbeq]; exact idx_off (e := 61) (n := 4) (by kernel_rfl) (by kernel_rfl) beq oeq p.ts.length p.tc .i64 q hltq (oeq + q * 4) (by omega) w1)) ?_
              refine run_v (Instr.loadAt 61 (.pointer (some ⟨beq, oeq + q * 4, none⟩)) >>= fun v => pure (Next.value v)) (some 69) (.agg #[iV (elT p.ts q).1, iV (elT p.ts q).2.1, iV (elT p.ts q).2.2.1, iV (elT p.ts q).2.2.2]) (by kernel_rfl) (fun w1 k1 h1 => load_in (off := 0) k1 (fun h => h) [iV (elT p.ts q).1, iV (elT p.ts q).2.1, iV (elT p.ts q).2.2.1, iV (elT p.ts q).2.2.2] (c4 hcq.1 hcq.2.1 hcq.2.2.1 hcq.2.2.2) (by kernel_rfl)) ?_
              refine run_new (aO #[iV 0, iV 0, iV 0, iV 0] 61) (fun b2 => pA b2) (some 6) (fun _ => by kernel_rfl) (fun b2 hb2 => ?_)
              refine run_auto [] 7 [] [0, 1, 0] [1, 2, 5, 6, 70, 72] [0, 1] (st' := ⟨[(1, pA b1), (2, .bool false), (5, iV (q : Int)), (6, pA b2), (70, .agg #[.slice p.ba p.bs.length p.bc, iV p.near, iV p.last, .slice p.ta p.ts.length p.tc]), (72, iV (elT p.ts q).1)], [(b2, aO #[iV (elT p.ts q).1, iV (elT p.ts q).2.1, iV (elT p.ts q).2.2.1, iV (elT p.ts q).2.2.2] 61), (b1, aO #[.slice p.ba p.bs.length p.bc, iV p.near, iV p.last, .slice p.ta p.ts.length p.tc] 33)]⟩) (acc := [(pA b2, pA b2), (pA b1, pA b1), (pA b2, pA b2)]) (by kernel_rfl) (by kernel_rfl) ⟨rfl, rfl, rfl, trivial⟩ ?_
              cases hd7 : (inI (elT p.ts q).1 0 ((p.bs.length : Int) - 1)) with
              | false =>
                refine run_ret1 63 #[.agg #[.slice p.ba p.bs.length p.bc, iV p.near, iV p.last, .slice p.ta p.ts.length p.tc], iV (elT p.ts q).1] (some 73) (.bool false) (by kernel_rfl) (fun w1 k1 h1 => (by have h := rblock_any p (elT p.ts q).1 w1 hp.lb; rw [hd7] at h; exact h)) ?_
                refine run_auto [(74, .bool true)] 20 [true] [] [1, 2, 5] [1] (st' := ⟨[(1, pA b1), (2, .bool false), (5, iV (q : Int))], [(b1, aO #[.slice p.ba p.bs.length p.bc, iV p.near, iV p.last, .slice p.ta p.ts.length p.tc] 33)]⟩) (acc := [(.bool true, .bool true), (.bool true, .bool true)]) (by kernel_rfl) (by kernel_rfl) ⟨rfl, rfl, trivial⟩ ?_
                refine run_end (fn := f22) rfl (Nat.le_refl _) (by kernel_rfl) [] [.bool false] (e := []) (by kernel_rfl) trivial (fun w1 k1 h1 => ?_)
                have h : p.n.ok = false := by
                  unfold Sn.ok Sb.n
                  dsimp only
                  have hq := hd1
                  unfold inI at hq
                  rw [show (decide (1 ≤ (p.bs.length : Int)) && decide ((p.bs.length : Int) ≤ 4)) = true from by rw [← Bool.decide_and]; exact hq]
                  rw [hd2, hd3, (show decide ((p.ts.length : Int) ≤ 6) = true from by have := of_decide_eq_false hd4; exact decide_eq_true (by omega)), (all_yes (p := vBk) (d := (0, 0, 0, 0, 0, 0)) (fun j hj => hA2 j (by omega))), (all_no (p := vTc p.bs.length p.last) (d := (0, 0, 0, 0)) hltq (show vTc p.bs.length p.last (elT p.ts q) = false from by unfold vTc; rw [hd7]; rfl))]
                  simp
                exact ⟨by rw [h]; rfl, k1.keeps (fun _ h => h)⟩
              | true =>
                refine run_ret1 63 #[.agg #[.slice p.ba p.bs.length p.bc, iV p.near, iV p.last, .slice p.ta p.ts.length p.tc], iV (elT p.ts q).1] (some 73) (.bool true) (by kernel_rfl) (fun w1 k1 h1 => (by have h := rblock_any p (elT p.ts q).1 w1 hp.lb; rw [hd7] at h; exact h)) ?_
                refine run_auto [(74, .bool false)] 5 [] [1, 0] [1, 2, 5, 6, 75, 76, 78] [0, 1] (st' := ⟨[(1, pA b1), (2, .bool false), (5, iV (q : Int)), (6, pA b2), (75, .bool false), (76, .agg #[.slice p.ba p.bs.length p.bc, iV p.near, iV p.last, .slice p.ta p.ts.length p.tc]), (78, iV (elT p.ts q).2.1)], [(b2, aO #[iV (elT p.ts q).1, iV (elT p.ts q).2.1, iV (elT p.ts q).2.2.1, iV (elT p.ts q).2.2.2] 61), (b1, aO #[.slice p.ba p.bs.length p.bc, iV p.near, iV p.last, .slice p.ta p.ts.length p.tc] 33)]⟩) (acc := [(pA b2, pA b2), (pA b1, pA b1), (.bool false, .bool false)]) (by kernel_rfl) (by kernel_rfl) ⟨rfl, rfl, rfl, trivial⟩ ?_
                cases hd8 : (inI (elT p.ts q).2.1 0 p.last) with
                | false =>
                  refine run_ret1 64 #[.agg #[.slice p.ba p.bs.length p.bc, iV p.near, iV p.last, .slice p.ta p.ts.length p.tc], iV (elT p.ts q).2.1] (some 79) (.bool false) (by kernel_rfl) (fun w1 k1 h1 => (by have h := rminute_any p (elT p.ts q).2.1 w1; rw [hd8] at h; exact h)) ?_
                  refine run_auto [(80, .bool true)] 14 [true] [] [1, 2, 5] [1] (st' := ⟨[(1, pA b1), (2, .bool false), (5, iV (q : Int))], [(b1, aO #[.slice p.ba p.bs.length p.bc, iV p.near, iV p.last, .slice p.ta p.ts.length p.tc] 33)]⟩) (acc := [(.bool true, .bool true), (.bool true, .bool true)]) (by kernel_rfl) (by kernel_rfl) ⟨rfl, rfl, trivial⟩ ?_
                  refine run_end (fn := f22) rfl (Nat.le_refl _) (by kernel_rfl) [] [.bool false] (e := []) (by kernel_rfl) trivial (fun w1 k1 h1 => ?_)
                  have h : p.n.ok = false := by
                    unfold Sn.ok Sb.n
                    dsimp only
                    have hq := hd1
                    unfold inI at hq
                    rw [show (decide (1 ≤ (p.bs.length : Int)) && decide ((p.bs.length : Int) ≤ 4)) = true from by rw [← Bool.decide_and]; exact hq]
                    rw [hd2, hd3, (show decide ((p.ts.length : Int) ≤ 6) = true from by have := of_decide_eq_false hd4; exact decide_eq_true (by omega)), (all_yes (p := vBk) (d := (0, 0, 0, 0, 0, 0)) (fun j hj => hA2 j (by omega))), (all_no (p := vTc p.bs.length p.last) (d := (0, 0, 0, 0)) hltq (show vTc p.bs.length p.last (elT p.ts q) = false from by unfold vTc; rw [hd7, hd8]; rfl))]
                    simp
                  exact ⟨by rw [h]; rfl, k1.keeps (fun _ h => h)⟩
                | true =>
                  refine run_ret1 64 #[.agg #[.slice p.ba p.bs.length p.bc, iV p.near, iV p.last, .slice p.ta p.ts.length p.tc], iV (elT p.ts q).2.1] (some 79) (.bool true) (by kernel_rfl) (fun w1 k1 h1 => (by have h := rminute_any p (elT p.ts q).2.1 w1; rw [hd8] at h; exact h)) ?_
                  refine run_auto [(80, .bool false)] 5 [] [0] [1, 2, 5, 82, 84] [1] (st' := ⟨[(1, pA b1), (2, .bool false), (5, iV (q : Int)), (82, .bool false), (84, .agg #[iV (elT p.ts q).2.2.1, iV (elT p.ts q).2.2.2])], [(b1, aO #[.slice p.ba p.bs.length p.bc, iV p.near, iV p.last, .slice p.ta p.ts.length p.tc] 33)]⟩) (acc := [(pA b2, pA b2), (.bool false, .bool false)]) (by kernel_rfl) (by kernel_rfl) ⟨rfl, rfl, trivial⟩ ?_
                  cases hd9 : (spI (elT p.ts q).2.2 (-100) 100) with
                  | false =>
                    refine run_ret1 62 #[.agg #[iV (elT p.ts q).2.2.1, iV (elT p.ts q).2.2.2], iV (-100), iV 100] (some 85) (.bool false) (by kernel_rfl) (fun w1 k1 h1 => (by have h := rspan_any (elT p.ts q).2.2.1 (elT p.ts q).2.2.2 (-100) 100 w1; rw [hd9] at h; exact h)) ?_
                    refine run_auto [(86, .bool true)] 8 [true] [] [1, 2, 5] [0] (st' := ⟨[(1, pA b1), (2, .bool false), (5, iV (q : Int))], [(b1, aO #[.slice p.ba p.bs.length p.bc, iV p.near, iV p.last, .slice p.ta p.ts.length p.tc] 33)]⟩) (acc := [(.bool true, .bool true), (.bool true, .bool true)]) (by kernel_rfl) (by kernel_rfl) ⟨rfl, rfl, trivial⟩ ?_
                    refine run_end (fn := f22) rfl (Nat.le_refl _) (by kernel_rfl) [] [.bool false] (e := []) (by kernel_rfl) trivial (fun w1 k1 h1 => ?_)
                    have h : p.n.ok = false := by
                      unfold Sn.ok Sb.n
                      dsimp only
                      have hq := hd1
                      unfold inI at hq
                      rw [show (decide (1 ≤ (p.bs.length : Int)) && decide ((p.bs.length : Int) ≤ 4)) = true from by rw [← Bool.decide_and]; exact hq]
                      rw [hd2, hd3, (show decide ((p.ts.length : Int) ≤ 6) = true from by have := of_decide_eq_false hd4; exact decide_eq_true (by omega)), (all_yes (p := vBk) (d := (0, 0, 0, 0, 0, 0)) (fun j hj => hA2 j (by omega))), (all_no (p := vTc p.bs.length p.last) (d := (0, 0, 0, 0)) hltq (show vTc p.bs.length p.last (elT p.ts q) = false from by unfold vTc; rw [hd7, hd8, hd9]; rfl))]
                      simp
                    exact ⟨by rw [h]; rfl, k1.keeps (fun _ h => h)⟩
                  | true =>
                    refine run_ret1 62 #[.agg #[iV (elT p.ts q).2.2.1, iV (elT p.ts q).2.2.2], iV (-100), iV 100] (some 85) (.bool true) (by kernel_rfl) (fun w1 k1 h1 => (by have h := rspan_any (elT p.ts q).2.2.1 (elT p.ts q).2.2.2 (-100) 100 w1; rw [hd9] at h; exact h)) ?_
                    refine run_auto [(86, .bool false), (64, iV ((q + 1 : Nat) : Int))] 11 [false] [] [1, 2, 5] [0] (st' := ⟨[(1, pA b1), (2, .bool false), (5, iV ((q + 1 : Nat) : Int))], [(b1, aO #[.slice p.ba p.bs.length p.bc, iV p.near, iV p.last, .slice p.ta p.ts.length p.tc] 33)]⟩) (acc := [(iV (IntKind.i64.wrap ((q : Int) + 1)), iV ((q + 1 : Nat) : Int)), (.bool false, .bool false), (.bool false, .bool false)]) (by kernel_rfl) (by kernel_rfl) ⟨(wr (by omega) (by omega)), rfl, rfl, trivial⟩ ?_
                    exact run_round (by kernel_rfl) (hJ1 (q + 1) (⟨by omega, fun j hj => (Nat.lt_succ_iff_lt_or_eq.1 hj).elim (hB2 j) (fun h => h ▸ (show vTc p.bs.length p.last (elT p.ts q) = true from by unfold vTc; rw [hd7, hd8, hd9]; rfl))⟩) (by omega))
          | true =>
            have hp5 := of_decide_eq_true hd5
            have hlt : k < p.bs.length := by omega
            obtain ⟨be, oe, hbe, hc⟩ := hp.bk (by intro h; rw [h] at hlt; cases hlt)
            have hc := hc k hlt
            refine run_auto [(34, .bool true)] 18 [true] [0, 0] [1, 2, 3, 38, 39] [0] (st' := ⟨[(1, pA b1), (2, .bool false), (3, iV (k : Int)), (38, .slice p.ba p.bs.length p.bc), (39, iV (k : Int))], [(b1, aO #[.slice p.ba p.bs.length p.bc, iV p.near, iV p.last, .slice p.ta p.ts.length p.tc] 33)]⟩) (acc := [(pA b1, pA b1), (.bool true, .bool true), (.bool (decide ((k : Int) < (p.bs.length : Int))), .bool true), (pA b1, pA b1)]) (by kernel_rfl) (by kernel_rfl) ⟨rfl, rfl, (bo hd5), rfl, trivial⟩ ?_
            refine run_v (Instr.indexAt 30 (.slice p.ba p.bs.length p.bc) (iV (k : Int)) >>= fun v => pure (Next.value v)) (some 40) (.pointer (some ⟨be, oe + k * 6, none⟩)) (by kernel_rfl) (fun w1 k1 h1 => (by rw [hbe]; exact idx_off (e := 54) (n := 6) (by kernel_rfl) (by kernel_rfl) be oe p.bs.length p.bc .i64 k hlt (oe + k * 6) (by omega) w1)) ?_
            refine run_v (Instr.loadAt 54 (.pointer (some ⟨be, oe + k * 6, none⟩)) >>= fun v => pure (Next.value v)) (some 41) (.agg #[iV (elB p.bs k).1, iV (elB p.bs k).2.1, iV (elB p.bs k).2.2.1, iV (elB p.bs k).2.2.2.1, iV (elB p.bs k).2.2.2.2.1, iV (elB p.bs k).2.2.2.2.2]) (by kernel_rfl) (fun w1 k1 h1 => load_in (off := 0) k1 (fun h => h) [iV (elB p.bs k).1, iV (elB p.bs k).2.1, iV (elB p.bs k).2.2.1, iV (elB p.bs k).2.2.2.1, iV (elB p.bs k).2.2.2.2.1, iV (elB p.bs k).2.2.2.2.2] (c6 hc.1 hc.2.1 hc.2.2.1 hc.2.2.2.1 hc.2.2.2.2.1 hc.2.2.2.2.2) (by kernel_rfl)) ?_
            refine run_new (aO #[iV 0, iV 0, iV 0, iV 0, iV 0, iV 0] 54) (fun b2 => pA b2) (some 4) (fun _ => by kernel_rfl) (fun b2 hb2 => ?_)
            refine run_auto [] 6 [] [0, 0] [1, 2, 3, 4, 43] [0, 1] (st' := ⟨[(1, pA b1), (2, .bool false), (3, iV (k : Int)), (4, pA b2), (43, .agg #[iV (elB p.bs k).1, iV (elB p.bs k).2.1])], [(b2, aO #[iV (elB p.bs k).1, iV (elB p.bs k).2.1, iV (elB p.bs k).2.2.1, iV (elB p.bs k).2.2.2.1, iV (elB p.bs k).2.2.2.2.1, iV (elB p.bs k).2.2.2.2.2] 54), (b1, aO #[.slice p.ba p.bs.length p.bc, iV p.near, iV p.last, .slice p.ta p.ts.length p.tc] 33)]⟩) (acc := [(pA b2, pA b2), (pA b2, pA b2)]) (by kernel_rfl) (by kernel_rfl) ⟨rfl, rfl, trivial⟩ ?_
            cases hd6 : (spI ((elB p.bs k).1, (elB p.bs k).2.1) (-100) 100) with
            | false =>
              refine run_ret1 62 #[.agg #[iV (elB p.bs k).1, iV (elB p.bs k).2.1], iV (-100), iV 100] (some 44) (.bool false) (by kernel_rfl) (fun w1 k1 h1 => (by have h := rspan_any (elB p.bs k).1 (elB p.bs k).2.1 (-100) 100 w1; rw [hd6] at h; exact h)) ?_
              refine run_auto [(45, .bool true)] 19 [true] [] [1, 2, 3] [1] (st' := ⟨[(1, pA b1), (2, .bool false), (3, iV (k : Int))], [(b1, aO #[.slice p.ba p.bs.length p.bc, iV p.near, iV p.last, .slice p.ta p.ts.length p.tc] 33)]⟩) (acc := [(.bool true, .bool true), (.bool true, .bool true)]) (by kernel_rfl) (by kernel_rfl) ⟨rfl, rfl, trivial⟩ ?_
              refine run_end (fn := f22) rfl (Nat.le_refl _) (by kernel_rfl) [] [.bool false] (e := []) (by kernel_rfl) trivial (fun w1 k1 h1 => ?_)
              have h : p.n.ok = false := by
                unfold Sn.ok Sb.n
                dsimp only
                have hq := hd1
                unfold inI at hq
                rw [show (decide (1 ≤ (p.bs.length : Int)) && decide ((p.bs.length : Int) ≤ 4)) = true from by rw [← Bool.decide_and]; exact hq]
                rw [hd2, hd3, (show decide ((p.ts.length : Int) ≤ 6) = true from by have := of_decide_eq_false hd4; exact decide_eq_true (by omega)), (all_no (p := vBk) (d := (0, 0, 0, 0, 0, 0)) hlt (show vBk (elB p.bs k) = false from by unfold vBk; rw [hd6]; rfl))]
                simp
              exact ⟨by rw [h]; rfl, k1.keeps (fun _ h => h)⟩
            | true =>
              refine run_ret1 62 #[.agg #[iV (elB p.bs k).1, iV (elB p.bs k).2.1], iV (-100), iV 100] (some 44) (.bool true) (by kernel_rfl) (fun w1 k1 h1 => (by have h := rspan_any (elB p.bs k).1 (elB p.bs k).2.1 (-100) 100 w1; rw [hd6] at h; exact h)) ?_
              refine run_auto [(45, .bool false)] 4 [] [0] [1, 2, 3, 4, 46, 48] [0, 1] (st' := ⟨[(1, pA b1), (2, .bool false), (3, iV (k : Int)), (4, pA b2), (46, .bool false), (48, .agg #[iV (elB p.bs k).2.2.1, iV (elB p.bs k).2.2.2.1])], [(b2, aO #[iV (elB p.bs k).1, iV (elB p.bs k).2.1, iV (elB p.bs k).2.2.1, iV (elB p.bs k).2.2.2.1, iV (elB p.bs k).2.2.2.2.1, iV (elB p.bs k).2.2.2.2.2] 54), (b1, aO #[.slice p.ba p.bs.length p.bc, iV p.near, iV p.last, .slice p.ta p.ts.length p.tc] 33)]⟩) (acc := [(pA b2, pA b2), (.bool false, .bool false)]) (by kernel_rfl) (by kernel_rfl) ⟨rfl, rfl, trivial⟩ ?_
              cases hd7 : (spI ((elB p.bs k).2.2.1, (elB p.bs k).2.2.2.1) 2 8) with
              | false =>
                refine run_ret1 62 #[.agg #[iV (elB p.bs k).2.2.1, iV (elB p.bs k).2.2.2.1], iV 2, iV 8] (some 49) (.bool false) (by kernel_rfl) (fun w1 k1 h1 => (by have h := rspan_any (elB p.bs k).2.2.1 (elB p.bs k).2.2.2.1 2 8 w1; rw [hd7] at h; exact h)) ?_
                refine run_auto [(50, .bool true)] 14 [true] [] [1, 2, 3] [1] (st' := ⟨[(1, pA b1), (2, .bool false), (3, iV (k : Int))], [(b1, aO #[.slice p.ba p.bs.length p.bc, iV p.near, iV p.last, .slice p.ta p.ts.length p.tc] 33)]⟩) (acc := [(.bool true, .bool true), (.bool true, .bool true)]) (by kernel_rfl) (by kernel_rfl) ⟨rfl, rfl, trivial⟩ ?_
                refine run_end (fn := f22) rfl (Nat.le_refl _) (by kernel_rfl) [] [.bool false] (e := []) (by kernel_rfl) trivial (fun w1 k1 h1 => ?_)
                have h : p.n.ok = false := by
                  unfold Sn.ok Sb.n
                  dsimp only
                  have hq := hd1
                  unfold inI at hq
                  rw [show (decide (1 ≤ (p.bs.length : Int)) && decide ((p.bs.length : Int) ≤ 4)) = true from by rw [← Bool.decide_and]; exact hq]
                  rw [hd2, hd3, (show decide ((p.ts.length : Int) ≤ 6) = true from by have := of_decide_eq_false hd4; exact decide_eq_true (by omega)), (all_no (p := vBk) (d := (0, 0, 0, 0, 0, 0)) hlt (show vBk (elB p.bs k) = false from by unfold vBk; rw [hd6, hd7]; rfl))]
                  simp
                exact ⟨by rw [h]; rfl, k1.keeps (fun _ h => h)⟩
              | true =>
                refine run_ret1 62 #[.agg #[iV (elB p.bs k).2.2.1, iV (elB p.bs k).2.2.2.1], iV 2, iV 8] (some 49) (.bool true) (by kernel_rfl) (fun w1 k1 h1 => (by have h := rspan_any (elB p.bs k).2.2.1 (elB p.bs k).2.2.2.1 2 8 w1; rw [hd7] at h; exact h)) ?_
                refine run_auto [(50, .bool false)] 5 [] [0] [1, 2, 3, 52, 54] [1] (st' := ⟨[(1, pA b1), (2, .bool false), (3, iV (k : Int)), (52, .bool false), (54, .agg #[iV (elB p.bs k).2.2.2.2.1, iV (elB p.bs k).2.2.2.2.2])], [(b1, aO #[.slice p.ba p.bs.length p.bc, iV p.near, iV p.last, .slice p.ta p.ts.length p.tc] 33)]⟩) (acc := [(pA b2, pA b2), (.bool false, .bool false)]) (by kernel_rfl) (by kernel_rfl) ⟨rfl, rfl, trivial⟩ ?_
                cases hd8 : (spI (elB p.bs k).2.2.2.2 0 20) with
                | false =>
                  refine run_ret1 62 #[.agg #[iV (elB p.bs k).2.2.2.2.1, iV (elB p.bs k).2.2.2.2.2], iV 0, iV 20] (some 55) (.bool false) (by kernel_rfl) (fun w1 k1 h1 => (by have h := rspan_any (elB p.bs k).2.2.2.2.1 (elB p.bs k).2.2.2.2.2 0 20 w1; rw [hd8] at h; exact h)) ?_
                  refine run_auto [(56, .bool true)] 8 [true] [] [1, 2, 3] [0] (st' := ⟨[(1, pA b1), (2, .bool false), (3, iV (k : Int))], [(b1, aO #[.slice p.ba p.bs.length p.bc, iV p.near, iV p.last, .slice p.ta p.ts.length p.tc] 33)]⟩) (acc := [(.bool true, .bool true), (.bool true, .bool true)]) (by kernel_rfl) (by kernel_rfl) ⟨rfl, rfl, trivial⟩ ?_
                  refine run_end (fn := f22) rfl (Nat.le_refl _) (by kernel_rfl) [] [.bool false] (e := []) (by kernel_rfl) trivial (fun w1 k1 h1 => ?_)
                  have h : p.n.ok = false := by
                    unfold Sn.ok Sb.n
                    dsimp only
                    have hq := hd1
                    unfold inI at hq
                    rw [show (decide (1 ≤ (p.bs.length : Int)) && decide ((p.bs.length : Int) ≤ 4)) = true from by rw [← Bool.decide_and]; exact hq]
                    rw [hd2, hd3, (show decide ((p.ts.length : Int) ≤ 6) = true from by have := of_decide_eq_false hd4; exact decide_eq_true (by omega)), (all_no (p := vBk) (d := (0, 0, 0, 0, 0, 0)) hlt (show vBk (elB p.bs k) = false from by unfold vBk; rw [hd6, hd7, hd8]; rfl))]
                    simp
                  exact ⟨by rw [h]; rfl, k1.keeps (fun _ h => h)⟩
                | true =>
                  refine run_ret1 62 #[.agg #[iV (elB p.bs k).2.2.2.2.1, iV (elB p.bs k).2.2.2.2.2], iV 0, iV 20] (some 55) (.bool true) (by kernel_rfl) (fun w1 k1 h1 => (by have h := rspan_any (elB p.bs k).2.2.2.2.1 (elB p.bs k).2.2.2.2.2 0 20 w1; rw [hd8] at h; exact h)) ?_
                  refine run_auto [(56, .bool false), (36, iV ((k + 1 : Nat) : Int))] 11 [false] [] [1, 2, 3] [0] (st' := ⟨[(1, pA b1), (2, .bool false), (3, iV ((k + 1 : Nat) : Int))], [(b1, aO #[.slice p.ba p.bs.length p.bc, iV p.near, iV p.last, .slice p.ta p.ts.length p.tc] 33)]⟩) (acc := [(iV (IntKind.i64.wrap ((k : Int) + 1)), iV ((k + 1 : Nat) : Int)), (.bool false, .bool false), (.bool false, .bool false)]) (by kernel_rfl) (by kernel_rfl) ⟨(wr (by omega) (by omega)), rfl, rfl, trivial⟩ ?_
                  exact run_round (by kernel_rfl) (hJ0 (k + 1) (⟨by omega, fun j hj => (Nat.lt_succ_iff_lt_or_eq.1 hj).elim (hA2 j) (fun h => h ▸ (show vBk (elB p.bs k) = true from by unfold vBk; rw [hd6, hd7, hd8]; rfl))⟩) (by omega))
        | true =>
          have hp4 := of_decide_eq_true hd4
          refine run_auto [(22, .bool false), (28, .bool true)] 14 [true] [0] [1, 2] [0] (st' := ⟨[(1, pA b1), (2, .bool false)], [(b1, aO #[.slice p.ba p.bs.length p.bc, iV p.near, iV p.last, .slice p.ta p.ts.length p.tc] 33)]⟩) (acc := [(.bool true, .bool true), (.bool (decide (6 < (p.ts.length : Int))), .bool true), (pA b1, pA b1), (.bool false, .bool false)]) (by kernel_rfl) (by kernel_rfl) ⟨rfl, (bo hd4), rfl, rfl, trivial⟩ ?_
          refine run_end (fn := f22) rfl (Nat.le_refl _) (by kernel_rfl) [] [.bool false] (e := []) (by kernel_rfl) trivial (fun w1 k1 h1 => ?_)
          have h : p.n.ok = false := by
            unfold Sn.ok Sb.n
            dsimp only
            have hq := hd1
            unfold inI at hq
            rw [show (decide (1 ≤ (p.bs.length : Int)) && decide ((p.bs.length : Int) ≤ 4)) = true from by rw [← Bool.decide_and]; exact hq]
            rw [hd2, hd3, (show decide ((p.ts.length : Int) ≤ 6) = false from by have := of_decide_eq_true hd4; exact decide_eq_false (by omega))]
            simp
          exact ⟨by rw [h]; rfl, k1.keeps (fun _ h => h)⟩


def lonB (p : Sb) : Bool := decide (40 < max (p.bs.length : Int) (p.ts.length : Int))
set_option maxRecDepth 100000 in
theorem long_any (p : Sb) (w : World)  : Calls Try.prog 21 #[.agg #[.slice p.ba p.bs.length p.bc, .int .i64 p.near, .int .i64 p.last, .slice p.ta p.ts.length p.tc]] w (RetB (lonB p) w) := by
  refine calls_run (fn := f21) (c := (f21.body).getD .skip) [.agg #[.slice p.ba p.bs.length p.bc, .int .i64 p.near, .int .i64 p.last, .slice p.ta p.ts.length p.tc]] func21 (by kernel_rfl) (fun _ => False) [] (fun _ h => by cases h) (List.Pairwise.nil) 11 (by kernel_rfl) (by simp) ?_
  refine run_auto [] 2 [] [] [0] [] (st' := ⟨[(0, .agg #[.slice p.ba p.bs.length p.bc, iV p.near, iV p.last, .slice p.ta p.ts.length p.tc])], []⟩) (acc := []) (by kernel_rfl) (by kernel_rfl) trivial ?_
  refine run_new (aO #[.slice p.ba p.bs.length p.bc, iV p.near, iV p.last, .slice p.ta p.ts.length p.tc] 33) (fun b1 => pA b1) (some 1) (fun _ => by kernel_rfl) (fun b1 hb1 => ?_)
  cases hd1 : (decide (40 < (max (p.bs.length : Int) (p.ts.length : Int)))) with
  | false =>
    have hp1 := of_decide_eq_false hd1
    refine run_auto [(9, iV (max (p.bs.length : Int) (p.ts.length : Int))), (10, .bool false)] 14 [] [0, 0] [2] [] (st' := ⟨[(2, .bool false)], []⟩) (acc := [(.bool (decide (40 < (max (p.bs.length : Int) (p.ts.length : Int)))), .bool false), (iV (if (p.ts.length : Int) > (p.bs.length : Int) then (p.ts.length : Int) else (p.bs.length : Int)), iV (max (p.bs.length : Int) (p.ts.length : Int))), (pA b1, pA b1), (pA b1, pA b1)]) (by kernel_rfl) (by kernel_rfl) ⟨(bo hd1), (mx _ _ _), rfl, rfl, trivial⟩ ?_
    refine run_end (fn := f21) rfl (Nat.le_refl _) (by kernel_rfl) [] [.bool false] (e := []) (by kernel_rfl) trivial (fun w1 k1 h1 => ?_)
    exact ⟨by unfold lonB; rw [hd1]; rfl, k1.keeps (fun _ h => h)⟩
  | true =>
    have hp1 := of_decide_eq_true hd1
    refine run_auto [(9, iV (max (p.bs.length : Int) (p.ts.length : Int))), (10, .bool true)] 14 [] [0, 0] [2] [] (st' := ⟨[(2, .bool true)], []⟩) (acc := [(.bool (decide (40 < (max (p.bs.length : Int) (p.ts.length : Int)))), .bool true), (iV (if (p.ts.length : Int) > (p.bs.length : Int) then (p.ts.length : Int) else (p.bs.length : Int)), iV (max (p.bs.length : Int) (p.ts.length : Int))), (pA b1, pA b1), (pA b1, pA b1)]) (by kernel_rfl) (by kernel_rfl) ⟨(bo hd1), (mx _ _ _), rfl, rfl, trivial⟩ ?_
    refine run_end (fn := f21) rfl (Nat.le_refl _) (by kernel_rfl) [] [.bool true] (e := []) (by kernel_rfl) trivial (fun w1 k1 h1 => ?_)
    exact ⟨by unfold lonB; rw [hd1]; rfl, k1.keeps (fun _ h => h)⟩

end Go.Proofs.Ytfjfkaaflghaiaa

namespace Go.Proofs.Ytfjfkaaflghaiaa
open Go.RowKit Go.Proofs.Try
attribute [local irreducible] Run wpK

set_option maxRecDepth 100000 in
theorem alive_any  (w : World)  : Calls Try.prog 19 #[] w (RetB true w) := by
  refine calls_run (fn := f19) (c := (f19.body).getD .skip) [] func19 (by kernel_rfl) (fun _ => False) [] (fun _ h => by cases h) (List.Pairwise.nil) 139 (by kernel_rfl) (by simp) ?_
  refine run_auto [] 6 [] [] [0] [] (st' := ⟨[(0, .bool false)], []⟩) (acc := []) (by kernel_rfl) (by kernel_rfl) trivial ?_
  refine run_nwl 12 #[] (some 20) (α := Nat × Nat) (fun x => .agg #[.slice (some ⟨(x.2), 0, none⟩) 2 2, iV 5, iV 12, .slice (some ⟨(x.1), 0, none⟩) 1 1]) (fun x => [((x.1), aO #[iV 1, iV 4, iV 8, iV 10] 61), ((x.2), aO #[iV 40, iV 44, iV 4, iV 4, iV 10, iV 12, iV (-6), iV (-5), iV 2, iV 3, iV 0, iV 0] 54)]) (fun x => True) (by kernel_rfl) (fun x p hp => by simp only [List.mem_cons, List.not_mem_nil, or_false] at hp; rcases hp with rfl | rfl <;> rfl) (fun w1 k1 h1 => sample_any w1) (fun x hI1 hn1 => ?_)
  obtain ⟨gt1, gb1⟩ := x
  dsimp only at hI1 hn1
  have hgt1 := hn1 _ (List.mem_of_getElem? (i := 0) rfl)
  have hgb1 := hn1 _ (List.mem_of_getElem? (i := 1) rfl)
  refine run_ret1 11 #[.agg #[sV gb1 2 2, iV 5, iV 12, sV gt1 1 1], iV 1, iV 5] (some 21) (.tuple #[.agg #[iV 4, iV 6], iV 0]) (by kernel_rfl) (fun w1 k1 h1 => (by have h := Excess_any (smp gb1 gt1) 1 5 w1 (smp_in (by exact (h1 (gb1, aO #[iV 40, iV 44, iV 4, iV 4, iV 10, iV 12, iV (-6), iV (-5), iV 2, iV 3, iV 0, iV 0] 54) (List.mem_of_getElem? (i := 1) (by kernel_rfl)))) (by exact (h1 (gt1, aO #[iV 1, iV 4, iV 8, iV 10] 61) (List.mem_of_getElem? (i := 0) (by kernel_rfl))))); rw [show excR (smp gb1 gt1).n 1 5 = .inr (4, 6) from by kernel_rfl] at h; exact h)) ?_
  refine run_auto [] 3 [] [] [0, 22, 23] [] (st' := ⟨[(0, .bool false), (22, .agg #[iV 4, iV 6]), (23, iV 0)], []⟩) (acc := []) (by kernel_rfl) (by kernel_rfl) trivial ?_
  refine run_new (aO #[iV 0, iV 0] 23) (fun b2 => pA b2) (some 1) (fun _ => by kernel_rfl) (fun b2 hb2 => ?_)
  refine run_auto [] 5 [] [0] [0, 1, 2] [0] (st' := ⟨[(0, .bool false), (1, pA b2), (2, iV 0)], [(b2, aO #[iV 4, iV 6] 23)]⟩) (acc := [(pA b2, pA b2)]) (by kernel_rfl) (by kernel_rfl) ⟨rfl, trivial⟩ ?_
  refine run_nwl 12 #[] (some 25) (α := Nat × Nat) (fun x => .agg #[.slice (some ⟨(x.2), 0, none⟩) 2 2, iV 5, iV 12, .slice (some ⟨(x.1), 0, none⟩) 1 1]) (fun x => [((x.1), aO #[iV 1, iV 4, iV 8, iV 10] 61), ((x.2), aO #[iV 40, iV 44, iV 4, iV 4, iV 10, iV 12, iV (-6), iV (-5), iV 2, iV 3, iV 0, iV 0] 54)]) (fun x => True) (by kernel_rfl) (fun x p hp => by simp only [List.mem_cons, List.not_mem_nil, or_false] at hp; rcases hp with rfl | rfl <;> rfl) (fun w1 k1 h1 => sample_any w1) (fun x hI3 hn3 => ?_)
  obtain ⟨gt3, gb3⟩ := x
  dsimp only at hI3 hn3
  have hgt3 := hn3 _ (List.mem_of_getElem? (i := 0) rfl)
  have hgb3 := hn3 _ (List.mem_of_getElem? (i := 1) rfl)
  refine run_ret1 13 #[.agg #[sV gb3 2 2, iV 5, iV 12, sV gt3 1 1], iV 0, iV 0] (some 26) (.tuple #[.agg #[iV 40, iV 52], iV 0]) (by kernel_rfl) (fun w1 k1 h1 => (by have h := Longer_any (smp gb3 gt3) 0 0 w1 (smp_in (by exact (h1 (gb3, aO #[iV 40, iV 44, iV 4, iV 4, iV 10, iV 12, iV (-6), iV (-5), iV 2, iV 3, iV 0, iV 0] 54) (List.mem_of_getElem? (i := 1) (by kernel_rfl)))) (by exact (h1 (gt3, aO #[iV 1, iV 4, iV 8, iV 10] 61) (List.mem_of_getElem? (i := 0) (by kernel_rfl))))); rw [show lonR (smp gb3 gt3).n 0 0 = .inr (40, 52) from by kernel_rfl] at h; exact h)) ?_
  refine run_auto [] 3 [] [] [0, 1, 2, 27, 28] [2] (st' := ⟨[(0, .bool false), (1, pA b2), (2, iV 0), (27, .agg #[iV 40, iV 52]), (28, iV 0)], [(b2, aO #[iV 4, iV 6] 23)]⟩) (acc := []) (by kernel_rfl) (by kernel_rfl) trivial ?_
  refine run_new (aO #[iV 0, iV 0] 23) (fun b4 => pA b4) (some 3) (fun _ => by kernel_rfl) (fun b4 hb4 => ?_)
  refine run_auto [] 5 [] [0] [0, 1, 2, 3, 4] [0, 1] (st' := ⟨[(0, .bool false), (1, pA b2), (2, iV 0), (3, pA b4), (4, iV 0)], [(b4, aO #[iV 40, iV 52] 23), (b2, aO #[iV 4, iV 6] 23)]⟩) (acc := [(pA b4, pA b4)]) (by kernel_rfl) (by kernel_rfl) ⟨rfl, trivial⟩ ?_
  refine run_nwl 12 #[] (some 30) (α := Nat × Nat) (fun x => .agg #[.slice (some ⟨(x.2), 0, none⟩) 2 2, iV 5, iV 12, .slice (some ⟨(x.1), 0, none⟩) 1 1]) (fun x => [((x.1), aO #[iV 1, iV 4, iV 8, iV 10] 61), ((x.2), aO #[iV 40, iV 44, iV 4, iV 4, iV 10, iV 12, iV (-6), iV (-5), iV 2, iV 3, iV 0, iV 0] 54)]) (fun x => True) (by kernel_rfl) (fun x p hp => by simp only [List.mem_cons, List.not_mem_nil, or_false] at hp; rcases hp with rfl | rfl <;> rfl) (fun w1 k1 h1 => sample_any w1) (fun x hI5 hn5 => ?_)
  obtain ⟨gt5, gb5⟩ := x
  dsimp only at hI5 hn5
  have hgt5 := hn5 _ (List.mem_of_getElem? (i := 0) rfl)
  have hgb5 := hn5 _ (List.mem_of_getElem? (i := 1) rfl)
  refine run_ret1 14 #[.agg #[sV gb5 2 2, iV 5, iV 12, sV gt5 1 1], iV 1, iV 5] (some 31) (.tuple #[iV 1, iV 0]) (by kernel_rfl) (fun w1 k1 h1 => (by have h := Settled_any (smp gb5 gt5) 1 5 w1 (smp_in (by exact (h1 (gb5, aO #[iV 40, iV 44, iV 4, iV 4, iV 10, iV 12, iV (-6), iV (-5), iV 2, iV 3, iV 0, iV 0] 54) (List.mem_of_getElem? (i := 1) (by kernel_rfl)))) (by exact (h1 (gt5, aO #[iV 1, iV 4, iV 8, iV 10] 61) (List.mem_of_getElem? (i := 0) (by kernel_rfl))))); rw [show setR (smp gb5 gt5).n 1 5 = .inr 1 from by kernel_rfl] at h; exact h)) ?_
  refine run_auto [] 8 [] [] [0, 1, 2, 3, 4, 5, 6] [2, 3] (st' := ⟨[(0, .bool false), (1, pA b2), (2, iV 0), (3, pA b4), (4, iV 0), (5, iV 1), (6, iV 0)], [(b4, aO #[iV 40, iV 52] 23), (b2, aO #[iV 4, iV 6] 23)]⟩) (acc := []) (by kernel_rfl) (by kernel_rfl) trivial ?_
  refine run_nwl 12 #[] (some 35) (α := Nat × Nat) (fun x => .agg #[.slice (some ⟨(x.2), 0, none⟩) 2 2, iV 5, iV 12, .slice (some ⟨(x.1), 0, none⟩) 1 1]) (fun x => [((x.1), aO #[iV 1, iV 4, iV 8, iV 10] 61), ((x.2), aO #[iV 40, iV 44, iV 4, iV 4, iV 10, iV 12, iV (-6), iV (-5), iV 2, iV 3, iV 0, iV 0] 54)]) (fun x => True) (by kernel_rfl) (fun x p hp => by simp only [List.mem_cons, List.not_mem_nil, or_false] at hp; rcases hp with rfl | rfl <;> rfl) (fun w1 k1 h1 => sample_any w1) (fun x hI6 hn6 => ?_)
  obtain ⟨gt6, gb6⟩ := x
  dsimp only at hI6 hn6
  have hgt6 := hn6 _ (List.mem_of_getElem? (i := 0) rfl)
  have hgb6 := hn6 _ (List.mem_of_getElem? (i := 1) rfl)
  refine run_ret1 15 #[.agg #[sV gb6 2 2, iV 5, iV 12, sV gt6 1 1], iV 1] (some 36) (.tuple #[iV 6, iV 0]) (by kernel_rfl) (fun w1 k1 h1 => (by have h := When_any (smp gb6 gt6) 1 w1 (smp_in (by exact (h1 (gb6, aO #[iV 40, iV 44, iV 4, iV 4, iV 10, iV 12, iV (-6), iV (-5), iV 2, iV 3, iV 0, iV 0] 54) (List.mem_of_getElem? (i := 1) (by kernel_rfl)))) (by exact (h1 (gt6, aO #[iV 1, iV 4, iV 8, iV 10] 61) (List.mem_of_getElem? (i := 0) (by kernel_rfl))))); rw [show whenR (smp gb6 gt6).n 1 = .inr 6 from by kernel_rfl] at h; exact h)) ?_
  refine run_auto [] 8 [] [] [0, 1, 2, 3, 4, 5, 6, 7, 8] [2, 3] (st' := ⟨[(0, .bool false), (1, pA b2), (2, iV 0), (3, pA b4), (4, iV 0), (5, iV 1), (6, iV 0), (7, iV 6), (8, iV 0)], [(b4, aO #[iV 40, iV 52] 23), (b2, aO #[iV 4, iV 6] 23)]⟩) (acc := []) (by kernel_rfl) (by kernel_rfl) trivial ?_
  refine run_nwl 12 #[] (some 40) (α := Nat × Nat) (fun x => .agg #[.slice (some ⟨(x.2), 0, none⟩) 2 2, iV 5, iV 12, .slice (some ⟨(x.1), 0, none⟩) 1 1]) (fun x => [((x.1), aO #[iV 1, iV 4, iV 8, iV 10] 61), ((x.2), aO #[iV 40, iV 44, iV 4, iV 4, iV 10, iV 12, iV (-6), iV (-5), iV 2, iV 3, iV 0, iV 0] 54)]) (fun x => True) (by kernel_rfl) (fun x p hp => by simp only [List.mem_cons, List.not_mem_nil, or_false] at hp; rcases hp with rfl | rfl <;> rfl) (fun w1 k1 h1 => sample_any w1) (fun x hI7 hn7 => ?_)
  obtain ⟨gt7, gb7⟩ := x
  dsimp only at hI7 hn7
  have hgt7 := hn7 _ (List.mem_of_getElem? (i := 0) rfl)
  have hgb7 := hn7 _ (List.mem_of_getElem? (i := 1) rfl)
  refine run_ret1 24 #[.agg #[sV gb7 2 2, iV 5, iV 12, sV gt7 1 1]] (some 41) (.tuple #[iV 7, iV 0]) (by kernel_rfl) (fun w1 k1 h1 => (by have h := All_any (smp gb7 gt7)  w1 (smp_in (by exact (h1 (gb7, aO #[iV 40, iV 44, iV 4, iV 4, iV 10, iV 12, iV (-6), iV (-5), iV 2, iV 3, iV 0, iV 0] 54) (List.mem_of_getElem? (i := 1) (by kernel_rfl)))) (by exact (h1 (gt7, aO #[iV 1, iV 4, iV 8, iV 10] 61) (List.mem_of_getElem? (i := 0) (by kernel_rfl))))); rw [show allR (smp gb7 gt7).n  = .inr 7 from by kernel_rfl] at h; exact h)) ?_
  refine run_auto [] 8 [] [] [0, 1, 2, 3, 4, 5, 6, 7, 8, 9, 10] [2, 3] (st' := ⟨[(0, .bool false), (1, pA b2), (2, iV 0), (3, pA b4), (4, iV 0), (5, iV 1), (6, iV 0), (7, iV 6), (8, iV 0), (9, iV 7), (10, iV 0)], [(b4, aO #[iV 40, iV 52] 23), (b2, aO #[iV 4, iV 6] 23)]⟩) (acc := []) (by kernel_rfl) (by kernel_rfl) trivial ?_
  refine run_nwl 12 #[] (some 45) (α := Nat × Nat) (fun x => .agg #[.slice (some ⟨(x.2), 0, none⟩) 2 2, iV 5, iV 12, .slice (some ⟨(x.1), 0, none⟩) 1 1]) (fun x => [((x.1), aO #[iV 1, iV 4, iV 8, iV 10] 61), ((x.2), aO #[iV 40, iV 44, iV 4, iV 4, iV 10, iV 12, iV (-6), iV (-5), iV 2, iV 3, iV 0, iV 0] 54)]) (fun x => True) (by kernel_rfl) (fun x p hp => by simp only [List.mem_cons, List.not_mem_nil, or_false] at hp; rcases hp with rfl | rfl <;> rfl) (fun w1 k1 h1 => sample_any w1) (fun x hI8 hn8 => ?_)
  obtain ⟨gt8, gb8⟩ := x
  dsimp only at hI8 hn8
  have hgt8 := hn8 _ (List.mem_of_getElem? (i := 0) rfl)
  have hgb8 := hn8 _ (List.mem_of_getElem? (i := 1) rfl)
  refine run_nwl 16 #[.agg #[sV gb8 2 2, iV 5, iV 12, sV gt8 1 1], iV 1] (some 46) (α := Nat × Nat × List Value) (fun x => .tuple #[.slice (some ⟨(x.1), 0, none⟩) 2 (x.2.1), iV 0]) (fun x => [((x.1), cO (([(1, 3), (6, 12)] : List Sp).flatMap spR ++ (x.2.2)) 23)]) (fun x => 2 ≤ (x.2.1)) (by kernel_rfl) (fun x p hp => by simp only [List.mem_cons, List.not_mem_nil, or_false] at hp; rcases hp with rfl <;> rfl) (fun w1 k1 h1 => ((show Calls Try.prog 16 #[.agg #[sV gb8 2 2, iV 5, iV 12, sV gt8 1 1], iV 1] w1 (SlR (.inr [(1, 3), (6, 12)]) w1) from (by have h := Rests_any (smp gb8 gt8) 1 w1 (smp_in (by exact (h1 (gb8, aO #[iV 40, iV 44, iV 4, iV 4, iV 10, iV 12, iV (-6), iV (-5), iV 2, iV 3, iV 0, iV 0] 54) (List.mem_of_getElem? (i := 1) (by kernel_rfl)))) (by exact (h1 (gt8, aO #[iV 1, iV 4, iV 8, iV 10] 61) (List.mem_of_getElem? (i := 0) (by kernel_rfl))))); rw [show restR (smp gb8 gt8).n 1 = .inr [(1, 3), (6, 12)] from by kernel_rfl] at h; exact h)).mono fun _ _ hh => hh.elim (fun hh => absurd hh.1 (by decide)) (fun hh => hh.2))) (fun x hI9 hn9 => ?_)
  obtain ⟨rg9, rc9, rsp9⟩ := x
  dsimp only at hI9 hn9
  have hrg9 := hn9 _ (List.mem_of_getElem? (i := 0) rfl)
  refine run_auto [] 8 [] [] [0, 1, 2, 3, 4, 5, 6, 7, 8, 9, 10, 11, 12] [0, 3, 4] (st' := ⟨[(0, .bool false), (1, pA b2), (2, iV 0), (3, pA b4), (4, iV 0), (5, iV 1), (6, iV 0), (7, iV 6), (8, iV 0), (9, iV 7), (10, iV 0), (11, sV rg9 2 rc9), (12, iV 0)], [(rg9, cO (([(1, 3), (6, 12)] : List Sp).flatMap spR ++ rsp9) 23), (b4, aO #[iV 40, iV 52] 23), (b2, aO #[iV 4, iV 6] 23)]⟩) (acc := []) (by kernel_rfl) (by kernel_rfl) trivial ?_
  refine run_nwl 12 #[] (some 50) (α := Nat × Nat) (fun x => .agg #[.slice (some ⟨(x.2), 0, none⟩) 2 2, iV 5, iV 12, .slice (some ⟨(x.1), 0, none⟩) 1 1]) (fun x => [((x.1), aO #[iV 1, iV 4, iV 8, iV 10] 61), ((x.2), aO #[iV 40, iV 44, iV 4, iV 4, iV 10, iV 12, iV (-6), iV (-5), iV 2, iV 3, iV 0, iV 0] 54)]) (fun x => True) (by kernel_rfl) (fun x p hp => by simp only [List.mem_cons, List.not_mem_nil, or_false] at hp; rcases hp with rfl | rfl <;> rfl) (fun w1 k1 h1 => sample_any w1) (fun x hI10 hn10 => ?_)
  obtain ⟨gt10, gb10⟩ := x
  dsimp only at hI10 hn10
  have hgt10 := hn10 _ (List.mem_of_getElem? (i := 0) rfl)
  have hgb10 := hn10 _ (List.mem_of_getElem? (i := 1) rfl)
  refine run_ret1 17 #[.agg #[sV gb10 2 2, iV 5, iV 12, sV gt10 1 1], iV 1, iV (-9)] (some 51) (.tuple #[iV 2, iV 0]) (by kernel_rfl) (fun w1 k1 h1 => (by have h := Wait_any (smp gb10 gt10) 1 (-9) w1 (smp_in (by exact (h1 (gb10, aO #[iV 40, iV 44, iV 4, iV 4, iV 10, iV 12, iV (-6), iV (-5), iV 2, iV 3, iV 0, iV 0] 54) (List.mem_of_getElem? (i := 1) (by kernel_rfl)))) (by exact (h1 (gt10, aO #[iV 1, iV 4, iV 8, iV 10] 61) (List.mem_of_getElem? (i := 0) (by kernel_rfl))))); rw [show waitR (smp gb10 gt10).n 1 (-9) = .inr 2 from by kernel_rfl] at h; exact h)) ?_
  refine run_auto [] 8 [] [] [0, 1, 2, 3, 4, 5, 6, 7, 8, 9, 10, 11, 12, 13, 14] [2, 3, 4] (st' := ⟨[(0, .bool false), (1, pA b2), (2, iV 0), (3, pA b4), (4, iV 0), (5, iV 1), (6, iV 0), (7, iV 6), (8, iV 0), (9, iV 7), (10, iV 0), (11, sV rg9 2 rc9), (12, iV 0), (13, iV 2), (14, iV 0)], [(rg9, cO (([(1, 3), (6, 12)] : List Sp).flatMap spR ++ rsp9) 23), (b4, aO #[iV 40, iV 52] 23), (b2, aO #[iV 4, iV 6] 23)]⟩) (acc := []) (by kernel_rfl) (by kernel_rfl) trivial ?_
  refine run_nwl 12 #[] (some 55) (α := Nat × Nat) (fun x => .agg #[.slice (some ⟨(x.2), 0, none⟩) 2 2, iV 5, iV 12, .slice (some ⟨(x.1), 0, none⟩) 1 1]) (fun x => [((x.1), aO #[iV 1, iV 4, iV 8, iV 10] 61), ((x.2), aO #[iV 40, iV 44, iV 4, iV 4, iV 10, iV 12, iV (-6), iV (-5), iV 2, iV 3, iV 0, iV 0] 54)]) (fun x => True) (by kernel_rfl) (fun x p hp => by simp only [List.mem_cons, List.not_mem_nil, or_false] at hp; rcases hp with rfl | rfl <;> rfl) (fun w1 k1 h1 => sample_any w1) (fun x hI11 hn11 => ?_)
  obtain ⟨gt11, gb11⟩ := x
  dsimp only at hI11 hn11
  have hgt11 := hn11 _ (List.mem_of_getElem? (i := 0) rfl)
  have hgb11 := hn11 _ (List.mem_of_getElem? (i := 1) rfl)
  refine run_ret1 18 #[.agg #[sV gb11 2 2, iV 5, iV 12, sV gt11 1 1], iV 0, iV 20, iV 12] (some 56) (.tuple #[iV 7, iV 0]) (by kernel_rfl) (fun w1 k1 h1 => (by have h := Latest_any (smp gb11 gt11) 0 12 20 w1 (smp_in (by exact (h1 (gb11, aO #[iV 40, iV 44, iV 4, iV 4, iV 10, iV 12, iV (-6), iV (-5), iV 2, iV 3, iV 0, iV 0] 54) (List.mem_of_getElem? (i := 1) (by kernel_rfl)))) (by exact (h1 (gt11, aO #[iV 1, iV 4, iV 8, iV 10] 61) (List.mem_of_getElem? (i := 0) (by kernel_rfl))))); rw [show latR (smp gb11 gt11).n 0 20 12 = .inr 7 from by kernel_rfl] at h; exact h)) ?_
  refine run_auto [] 8 [] [] [0, 1, 2, 3, 4, 5, 6, 7, 8, 9, 10, 11, 12, 13, 14, 15, 16] [2, 3, 4] (st' := ⟨[(0, .bool false), (1, pA b2), (2, iV 0), (3, pA b4), (4, iV 0), (5, iV 1), (6, iV 0), (7, iV 6), (8, iV 0), (9, iV 7), (10, iV 0), (11, sV rg9 2 rc9), (12, iV 0), (13, iV 2), (14, iV 0), (15, iV 7), (16, iV 0)], [(rg9, cO (([(1, 3), (6, 12)] : List Sp).flatMap spR ++ rsp9) 23), (b4, aO #[iV 40, iV 52] 23), (b2, aO #[iV 4, iV 6] 23)]⟩) (acc := []) (by kernel_rfl) (by kernel_rfl) trivial ?_
  refine run_nwl 12 #[] (some 60) (α := Nat × Nat) (fun x => .agg #[.slice (some ⟨(x.2), 0, none⟩) 2 2, iV 5, iV 12, .slice (some ⟨(x.1), 0, none⟩) 1 1]) (fun x => [((x.1), aO #[iV 1, iV 4, iV 8, iV 10] 61), ((x.2), aO #[iV 40, iV 44, iV 4, iV 4, iV 10, iV 12, iV (-6), iV (-5), iV 2, iV 3, iV 0, iV 0] 54)]) (fun x => True) (by kernel_rfl) (fun x p hp => by simp only [List.mem_cons, List.not_mem_nil, or_false] at hp; rcases hp with rfl | rfl <;> rfl) (fun w1 k1 h1 => sample_any w1) (fun x hI12 hn12 => ?_)
  obtain ⟨gt12, gb12⟩ := x
  dsimp only at hI12 hn12
  have hgt12 := hn12 _ (List.mem_of_getElem? (i := 0) rfl)
  have hgb12 := hn12 _ (List.mem_of_getElem? (i := 1) rfl)
  refine run_ret1 14 #[.agg #[sV gb12 2 2, iV 5, iV 12, sV gt12 1 1], iV 0, iV 6] (some 61) (.tuple #[iV 0, iV 0]) (by kernel_rfl) (fun w1 k1 h1 => (by have h := Settled_any (smp gb12 gt12) 0 6 w1 (smp_in (by exact (h1 (gb12, aO #[iV 40, iV 44, iV 4, iV 4, iV 10, iV 12, iV (-6), iV (-5), iV 2, iV 3, iV 0, iV 0] 54) (List.mem_of_getElem? (i := 1) (by kernel_rfl)))) (by exact (h1 (gt12, aO #[iV 1, iV 4, iV 8, iV 10] 61) (List.mem_of_getElem? (i := 0) (by kernel_rfl))))); rw [show setR (smp gb12 gt12).n 0 6 = .inr 0 from by kernel_rfl] at h; exact h)) ?_
  refine run_auto [] 7 [] [] [0, 1, 2, 3, 4, 5, 6, 7, 8, 9, 10, 11, 12, 13, 14, 15, 16, 17, 18] [2, 3, 4] (st' := ⟨[(0, .bool false), (1, pA b2), (2, iV 0), (3, pA b4), (4, iV 0), (5, iV 1), (6, iV 0), (7, iV 6), (8, iV 0), (9, iV 7), (10, iV 0), (11, sV rg9 2 rc9), (12, iV 0), (13, iV 2), (14, iV 0), (15, iV 7), (16, iV 0), (17, iV 0), (18, iV 0)], [(rg9, cO (([(1, 3), (6, 12)] : List Sp).flatMap spR ++ rsp9) 23), (b4, aO #[iV 40, iV 52] 23), (b2, aO #[iV 4, iV 6] 23)]⟩) (acc := []) (by kernel_rfl) (by kernel_rfl) trivial ?_
  refine drawW 76 [{ val := fun _ => .agg #[iV 4, iV 6], slots := [1], reads := [2] },
      { val := fun _ => .agg #[iV 4, iV 6] },
      { val := fun _ => .bool true, slots := [64, 65] },
      { val := fun _ => .bool true, slots := [66] },
      { val := fun _ => iV 0, slots := [2, 67] },
      { val := fun _ => .bool true, slots := [67, 68] },
      { val := fun _ => .bool true, slots := [67, 69] },
      { val := fun _ => .bool true, slots := [70] },
      { val := fun _ => .agg #[iV 40, iV 52], slots := [3, 71], reads := [1] },
      { val := fun _ => .agg #[iV 40, iV 52], slots := [71] },
      { val := fun _ => .bool true, slots := [71, 72, 73] },
      { val := fun _ => .bool true, slots := [71, 74] },
      { val := fun _ => .bool true, slots := [75] },
      { val := fun _ => iV 0, slots := [4, 76] },
      { val := fun _ => .bool true, slots := [76, 77] },
      { val := fun _ => .bool true, slots := [76, 78] },
      { val := fun _ => .bool true, slots := [79] },
      { val := fun _ => iV 1, slots := [5, 80] },
      { val := fun _ => .bool true, slots := [80, 81] },
      { val := fun _ => .bool true, slots := [80, 82] },
      { val := fun _ => .bool true, slots := [83] },
      { val := fun _ => iV 0, slots := [6, 84] },
      { val := fun _ => .bool true, slots := [84, 85] },
      { val := fun _ => .bool true, slots := [84, 86] },
      { val := fun _ => .bool true, slots := [87] },
      { val := fun _ => iV 6, slots := [7, 88] },
      { val := fun _ => .bool true, slots := [88, 89] },
      { val := fun _ => .bool true, slots := [88, 90] },
      { val := fun _ => .bool true, slots := [91] },
      { val := fun _ => iV 0, slots := [8, 92] },
      { val := fun _ => .bool true, slots := [92, 93] },
      { val := fun _ => .bool true, slots := [92, 94] },
      { val := fun _ => .bool true, slots := [95] },
      { val := fun _ => iV 7, slots := [9, 96] },
      { val := fun _ => .bool true, slots := [96, 97] },
      { val := fun _ => .bool true, slots := [96, 98] },
      { val := fun _ => .bool true, slots := [99] },
      { val := fun _ => iV 0, slots := [10, 100] },
      { val := fun _ => .bool true, slots := [100, 101] },
      { val := fun _ => .bool true, slots := [100, 102] },
      { val := fun _ => .bool true, slots := [103] },
      { val := fun _ => sV rg9 2 rc9, slots := [11, 104] },
      { val := fun _ => .agg #[iV 1, iV 3], slots := [104] },
      { val := fun _ => .agg #[iV 6, iV 12], slots := [104] },
      { names := [47], val := fun l => .slice (some ⟨(l.getD 0 0), 0, none⟩) 2 2, upd := [(47, fun l => aO #[iV 1, iV 3, iV 6, iV 12] 23)], news := [47], slots := [104, 106, 107] },
      { val := fun _ => .bool true, slots := [104, 105, 108], reads := [0, 47] },
      { val := fun _ => .bool true, slots := [104, 109] },
      { val := fun _ => .bool true, slots := [110] },
      { val := fun _ => iV 0, slots := [12, 111] },
      { val := fun _ => .bool true, slots := [111, 112] },
      { val := fun _ => .bool true, slots := [111, 113] },
      { val := fun _ => .bool true, slots := [114] },
      { val := fun _ => iV 2, slots := [13, 115] },
      { val := fun _ => .bool true, slots := [115, 116] },
      { val := fun _ => .bool true, slots := [115, 117] },
      { val := fun _ => .bool true, slots := [118] },
      { val := fun _ => iV 0, slots := [14, 119] },
      { val := fun _ => .bool true, slots := [119, 120] },
      { val := fun _ => .bool true, slots := [119, 121] },
      { val := fun _ => .bool true, slots := [122] },
      { val := fun _ => iV 7, slots := [15, 123] },
      { val := fun _ => .bool true, slots := [123, 124] },
      { val := fun _ => .bool true, slots := [123, 125] },
      { val := fun _ => .bool true, slots := [126] },
      { val := fun _ => iV 0, slots := [16, 127] },
      { val := fun _ => .bool true, slots := [127, 128] },
      { val := fun _ => .bool true, slots := [127, 129] },
      { val := fun _ => .bool true, slots := [130] },
      { val := fun _ => iV 0, slots := [17, 131] },
      { val := fun _ => .bool true, slots := [131, 132] },
      { val := fun _ => .bool true, slots := [131, 133] },
      { val := fun _ => .bool true, slots := [134] },
      { val := fun _ => iV 0, slots := [18, 135] },
      { val := fun _ => .bool true, slots := [135, 136] },
      { val := fun _ => .bool true, slots := [135, 137] },
      { val := fun _ => .bool true, slots := [138] }] [[], [], [0, 1], [0, 1, 2], [0, 1, 2, 3], [0, 1, 2, 3, 4], [0, 1, 2, 3, 4, 5], [0, 1, 2, 3, 4, 5, 6], [0, 1, 2, 3, 4, 5, 6, 7], [0, 1, 2, 3, 4, 5, 6, 7], [0, 1, 2, 3, 4, 5, 6, 7, 8, 9], [0, 1, 2, 3, 4, 5, 6, 7, 8, 9, 10], [0, 1, 2, 3, 4, 5, 6, 7, 8, 9, 10, 11], [0, 1, 2, 3, 4, 5, 6, 7, 8, 9, 10, 11, 12], [0, 1, 2, 3, 4, 5, 6, 7, 8, 9, 10, 11, 12, 13], [0, 1, 2, 3, 4, 5, 6, 7, 8, 9, 10, 11, 12, 13, 14], [0, 1, 2, 3, 4, 5, 6, 7, 8, 9, 10, 11, 12, 13, 14, 15], [0, 1, 2, 3, 4, 5, 6, 7, 8, 9, 10, 11, 12, 13, 14, 15, 16], [0, 1, 2, 3, 4, 5, 6, 7, 8, 9, 10, 11, 12, 13, 14, 15, 16, 17], [0, 1, 2, 3, 4, 5, 6, 7, 8, 9, 10, 11, 12, 13, 14, 15, 16, 17, 18], [0, 1, 2, 3, 4, 5, 6, 7, 8, 9, 10, 11, 12, 13, 14, 15, 16, 17, 18, 19], [0, 1, 2, 3, 4, 5, 6, 7, 8, 9, 10, 11, 12, 13, 14, 15, 16, 17, 18, 19, 20], [0, 1, 2, 3, 4, 5, 6, 7, 8, 9, 10, 11, 12, 13, 14, 15, 16, 17, 18, 19, 20, 21], [0, 1, 2, 3, 4, 5, 6, 7, 8, 9, 10, 11, 12, 13, 14, 15, 16, 17, 18, 19, 20, 21, 22], [0, 1, 2, 3, 4, 5, 6, 7, 8, 9, 10, 11, 12, 13, 14, 15, 16, 17, 18, 19, 20, 21, 22, 23], [0, 1, 2, 3, 4, 5, 6, 7, 8, 9, 10, 11, 12, 13, 14, 15, 16, 17, 18, 19, 20, 21, 22, 23, 24], [0, 1, 2, 3, 4, 5, 6, 7, 8, 9, 10, 11, 12, 13, 14, 15, 16, 17, 18, 19, 20, 21, 22, 23, 24, 25], [0, 1, 2, 3, 4, 5, 6, 7, 8, 9, 10, 11, 12, 13, 14, 15, 16, 17, 18, 19, 20, 21, 22, 23, 24, 25, 26], [0, 1, 2, 3, 4, 5, 6, 7, 8, 9, 10, 11, 12, 13, 14, 15, 16, 17, 18, 19, 20, 21, 22, 23, 24, 25, 26, 27], [0, 1, 2, 3, 4, 5, 6, 7, 8, 9, 10, 11, 12, 13, 14, 15, 16, 17, 18, 19, 20, 21, 22, 23, 24, 25, 26, 27, 28], [0, 1, 2, 3, 4, 5, 6, 7, 8, 9, 10, 11, 12, 13, 14, 15, 16, 17, 18, 19, 20, 21, 22, 23, 24, 25, 26, 27, 28, 29], [0, 1, 2, 3, 4, 5, 6, 7, 8, 9, 10, 11, 12, 13, 14, 15, 16, 17, 18, 19, 20, 21, 22, 23, 24, 25, 26, 27, 28, 29, 30], [0, 1, 2, 3, 4, 5, 6, 7, 8, 9, 10, 11, 12, 13, 14, 15, 16, 17, 18, 19, 20, 21, 22, 23, 24, 25, 26, 27, 28, 29, 30, 31], [0, 1, 2, 3, 4, 5, 6, 7, 8, 9, 10, 11, 12, 13, 14, 15, 16, 17, 18, 19, 20, 21, 22, 23, 24, 25, 26, 27, 28, 29, 30, 31, 32], [0, 1, 2, 3, 4, 5, 6, 7, 8, 9, 10, 11, 12, 13, 14, 15, 16, 17, 18, 19, 20, 21, 22, 23, 24, 25, 26, 27, 28, 29, 30, 31, 32, 33], [0, 1, 2, 3, 4, 5, 6, 7, 8, 9, 10, 11, 12, 13, 14, 15, 16, 17, 18, 19, 20, 21, 22, 23, 24, 25, 26, 27, 28, 29, 30, 31, 32, 33, 34], [0, 1, 2, 3, 4, 5, 6, 7, 8, 9, 10, 11, 12, 13, 14, 15, 16, 17, 18, 19, 20, 21, 22, 23, 24, 25, 26, 27, 28, 29, 30, 31, 32, 33, 34, 35], [0, 1, 2, 3, 4, 5, 6, 7, 8, 9, 10, 11, 12, 13, 14, 15, 16, 17, 18, 19, 20, 21, 22, 23, 24, 25, 26, 27, 28, 29, 30, 31, 32, 33, 34, 35, 36], [0, 1, 2, 3, 4, 5, 6, 7, 8, 9, 10, 11, 12, 13, 14, 15, 16, 17, 18, 19, 20, 21, 22, 23, 24, 25, 26, 27, 28, 29, 30, 31, 32, 33, 34, 35, 36, 37], [0, 1, 2, 3, 4, 5, 6, 7, 8, 9, 10, 11, 12, 13, 14, 15, 16, 17, 18, 19, 20, 21, 22, 23, 24, 25, 26, 27, 28, 29, 30, 31, 32, 33, 34, 35, 36, 37, 38], [0, 1, 2, 3, 4, 5, 6, 7, 8, 9, 10, 11, 12, 13, 14, 15, 16, 17, 18, 19, 20, 21, 22, 23, 24, 25, 26, 27, 28, 29, 30, 31, 32, 33, 34, 35, 36, 37, 38, 39], [0, 1, 2, 3, 4, 5, 6, 7, 8, 9, 10, 11, 12, 13, 14, 15, 16, 17, 18, 19, 20, 21, 22, 23, 24, 25, 26, 27, 28, 29, 30, 31, 32, 33, 34, 35, 36, 37, 38, 39, 40], [0, 1, 2, 3, 4, 5, 6, 7, 8, 9, 10, 11, 12, 13, 14, 15, 16, 17, 18, 19, 20, 21, 22, 23, 24, 25, 26, 27, 28, 29, 30, 31, 32, 33, 34, 35, 36, 37, 38, 39, 40], [0, 1, 2, 3, 4, 5, 6, 7, 8, 9, 10, 11, 12, 13, 14, 15, 16, 17, 18, 19, 20, 21, 22, 23, 24, 25, 26, 27, 28, 29, 30, 31, 32, 33, 34, 35, 36, 37, 38, 39, 40, 42], [0, 1, 2, 3, 4, 5, 6, 7, 8, 9, 10, 11, 12, 13, 14, 15, 16, 17, 18, 19, 20, 21, 22, 23, 24, 25, 26, 27, 28, 29, 30, 31, 32, 33, 34, 35, 36, 37, 38, 39, 40, 42, 43], [0, 1, 2, 3, 4, 5, 6, 7, 8, 9, 10, 11, 12, 13, 14, 15, 16, 17, 18, 19, 20, 21, 22, 23, 24, 25, 26, 27, 28, 29, 30, 31, 32, 33, 34, 35, 36, 37, 38, 39, 40, 41, 42, 43, 44], [0, 1, 2, 3, 4, 5, 6, 7, 8, 9, 10, 11, 12, 13, 14, 15, 16, 17, 18, 19, 20, 21, 22, 23, 24, 25, 26, 27, 28, 29, 30, 31, 32, 33, 34, 35, 36, 37, 38, 39, 40, 41, 42, 43, 44, 45], [0, 1, 2, 3, 4, 5, 6, 7, 8, 9, 10, 11, 12, 13, 14, 15, 16, 17, 18, 19, 20, 21, 22, 23, 24, 25, 26, 27, 28, 29, 30, 31, 32, 33, 34, 35, 36, 37, 38, 39, 40, 41, 42, 43, 44, 45, 46], [0, 1, 2, 3, 4, 5, 6, 7, 8, 9, 10, 11, 12, 13, 14, 15, 16, 17, 18, 19, 20, 21, 22, 23, 24, 25, 26, 27, 28, 29, 30, 31, 32, 33, 34, 35, 36, 37, 38, 39, 40, 41, 42, 43, 44, 45, 46, 47], [0, 1, 2, 3, 4, 5, 6, 7, 8, 9, 10, 11, 12, 13, 14, 15, 16, 17, 18, 19, 20, 21, 22, 23, 24, 25, 26, 27, 28, 29, 30, 31, 32, 33, 34, 35, 36, 37, 38, 39, 40, 41, 42, 43, 44, 45, 46, 47, 48], [0, 1, 2, 3, 4, 5, 6, 7, 8, 9, 10, 11, 12, 13, 14, 15, 16, 17, 18, 19, 20, 21, 22, 23, 24, 25, 26, 27, 28, 29, 30, 31, 32, 33, 34, 35, 36, 37, 38, 39, 40, 41, 42, 43, 44, 45, 46, 47, 48, 49], [0, 1, 2, 3, 4, 5, 6, 7, 8, 9, 10, 11, 12, 13, 14, 15, 16, 17, 18, 19, 20, 21, 22, 23, 24, 25, 26, 27, 28, 29, 30, 31, 32, 33, 34, 35, 36, 37, 38, 39, 40, 41, 42, 43, 44, 45, 46, 47, 48, 49, 50], [0, 1, 2, 3, 4, 5, 6, 7, 8, 9, 10, 11, 12, 13, 14, 15, 16, 17, 18, 19, 20, 21, 22, 23, 24, 25, 26, 27, 28, 29, 30, 31, 32, 33, 34, 35, 36, 37, 38, 39, 40, 41, 42, 43, 44, 45, 46, 47, 48, 49, 50, 51], [0, 1, 2, 3, 4, 5, 6, 7, 8, 9, 10, 11, 12, 13, 14, 15, 16, 17, 18, 19, 20, 21, 22, 23, 24, 25, 26, 27, 28, 29, 30, 31, 32, 33, 34, 35, 36, 37, 38, 39, 40, 41, 42, 43, 44, 45, 46, 47, 48, 49, 50, 51, 52], [0, 1, 2, 3, 4, 5, 6, 7, 8, 9, 10, 11, 12, 13, 14, 15, 16, 17, 18, 19, 20, 21, 22, 23, 24, 25, 26, 27, 28, 29, 30, 31, 32, 33, 34, 35, 36, 37, 38, 39, 40, 41, 42, 43, 44, 45, 46, 47, 48, 49, 50, 51, 52, 53], [0, 1, 2, 3, 4, 5, 6, 7, 8, 9, 10, 11, 12, 13, 14, 15, 16, 17, 18, 19, 20, 21, 22, 23, 24, 25, 26, 27, 28, 29, 30, 31, 32, 33, 34, 35, 36, 37, 38, 39, 40, 41, 42, 43, 44, 45, 46, 47, 48, 49, 50, 51, 52, 53, 54], [0, 1, 2, 3, 4, 5, 6, 7, 8, 9, 10, 11, 12, 13, 14, 15, 16, 17, 18, 19, 20, 21, 22, 23, 24, 25, 26, 27, 28, 29, 30, 31, 32, 33, 34, 35, 36, 37, 38, 39, 40, 41, 42, 43, 44, 45, 46, 47, 48, 49, 50, 51, 52, 53, 54, 55], [0, 1, 2, 3, 4, 5, 6, 7, 8, 9, 10, 11, 12, 13, 14, 15, 16, 17, 18, 19, 20, 21, 22, 23, 24, 25, 26, 27, 28, 29, 30, 31, 32, 33, 34, 35, 36, 37, 38, 39, 40, 41, 42, 43, 44, 45, 46, 47, 48, 49, 50, 51, 52, 53, 54, 55, 56], [0, 1, 2, 3, 4, 5, 6, 7, 8, 9, 10, 11, 12, 13, 14, 15, 16, 17, 18, 19, 20, 21, 22, 23, 24, 25, 26, 27, 28, 29, 30, 31, 32, 33, 34, 35, 36, 37, 38, 39, 40, 41, 42, 43, 44, 45, 46, 47, 48, 49, 50, 51, 52, 53, 54, 55, 56, 57], [0, 1, 2, 3, 4, 5, 6, 7, 8, 9, 10, 11, 12, 13, 14, 15, 16, 17, 18, 19, 20, 21, 22, 23, 24, 25, 26, 27, 28, 29, 30, 31, 32, 33, 34, 35, 36, 37, 38, 39, 40, 41, 42, 43, 44, 45, 46, 47, 48, 49, 50, 51, 52, 53, 54, 55, 56, 57, 58], [0, 1, 2, 3, 4, 5, 6, 7, 8, 9, 10, 11, 12, 13, 14, 15, 16, 17, 18, 19, 20, 21, 22, 23, 24, 25, 26, 27, 28, 29, 30, 31, 32, 33, 34, 35, 36, 37, 38, 39, 40, 41, 42, 43, 44, 45, 46, 47, 48, 49, 50, 51, 52, 53, 54, 55, 56, 57, 58, 59], [0, 1, 2, 3, 4, 5, 6, 7, 8, 9, 10, 11, 12, 13, 14, 15, 16, 17, 18, 19, 20, 21, 22, 23, 24, 25, 26, 27, 28, 29, 30, 31, 32, 33, 34, 35, 36, 37, 38, 39, 40, 41, 42, 43, 44, 45, 46, 47, 48, 49, 50, 51, 52, 53, 54, 55, 56, 57, 58, 59, 60], [0, 1, 2, 3, 4, 5, 6, 7, 8, 9, 10, 11, 12, 13, 14, 15, 16, 17, 18, 19, 20, 21, 22, 23, 24, 25, 26, 27, 28, 29, 30, 31, 32, 33, 34, 35, 36, 37, 38, 39, 40, 41, 42, 43, 44, 45, 46, 47, 48, 49, 50, 51, 52, 53, 54, 55, 56, 57, 58, 59, 60, 61], [0, 1, 2, 3, 4, 5, 6, 7, 8, 9, 10, 11, 12, 13, 14, 15, 16, 17, 18, 19, 20, 21, 22, 23, 24, 25, 26, 27, 28, 29, 30, 31, 32, 33, 34, 35, 36, 37, 38, 39, 40, 41, 42, 43, 44, 45, 46, 47, 48, 49, 50, 51, 52, 53, 54, 55, 56, 57, 58, 59, 60, 61, 62], [0, 1, 2, 3, 4, 5, 6, 7, 8, 9, 10, 11, 12, 13, 14, 15, 16, 17, 18, 19, 20, 21, 22, 23, 24, 25, 26, 27, 28, 29, 30, 31, 32, 33, 34, 35, 36, 37, 38, 39, 40, 41, 42, 43, 44, 45, 46, 47, 48, 49, 50, 51, 52, 53, 54, 55, 56, 57, 58, 59, 60, 61, 62, 63], [0, 1, 2, 3, 4, 5, 6, 7, 8, 9, 10, 11, 12, 13, 14, 15, 16, 17, 18, 19, 20, 21, 22, 23, 24, 25, 26, 27, 28, 29, 30, 31, 32, 33, 34, 35, 36, 37, 38, 39, 40, 41, 42, 43, 44, 45, 46, 47, 48, 49, 50, 51, 52, 53, 54, 55, 56, 57, 58, 59, 60, 61, 62, 63, 64], [0, 1, 2, 3, 4, 5, 6, 7, 8, 9, 10, 11, 12, 13, 14, 15, 16, 17, 18, 19, 20, 21, 22, 23, 24, 25, 26, 27, 28, 29, 30, 31, 32, 33, 34, 35, 36, 37, 38, 39, 40, 41, 42, 43, 44, 45, 46, 47, 48, 49, 50, 51, 52, 53, 54, 55, 56, 57, 58, 59, 60, 61, 62, 63, 64, 65], [0, 1, 2, 3, 4, 5, 6, 7, 8, 9, 10, 11, 12, 13, 14, 15, 16, 17, 18, 19, 20, 21, 22, 23, 24, 25, 26, 27, 28, 29, 30, 31, 32, 33, 34, 35, 36, 37, 38, 39, 40, 41, 42, 43, 44, 45, 46, 47, 48, 49, 50, 51, 52, 53, 54, 55, 56, 57, 58, 59, 60, 61, 62, 63, 64, 65, 66], [0, 1, 2, 3, 4, 5, 6, 7, 8, 9, 10, 11, 12, 13, 14, 15, 16, 17, 18, 19, 20, 21, 22, 23, 24, 25, 26, 27, 28, 29, 30, 31, 32, 33, 34, 35, 36, 37, 38, 39, 40, 41, 42, 43, 44, 45, 46, 47, 48, 49, 50, 51, 52, 53, 54, 55, 56, 57, 58, 59, 60, 61, 62, 63, 64, 65, 66, 67], [0, 1, 2, 3, 4, 5, 6, 7, 8, 9, 10, 11, 12, 13, 14, 15, 16, 17, 18, 19, 20, 21, 22, 23, 24, 25, 26, 27, 28, 29, 30, 31, 32, 33, 34, 35, 36, 37, 38, 39, 40, 41, 42, 43, 44, 45, 46, 47, 48, 49, 50, 51, 52, 53, 54, 55, 56, 57, 58, 59, 60, 61, 62, 63, 64, 65, 66, 67, 68], [0, 1, 2, 3, 4, 5, 6, 7, 8, 9, 10, 11, 12, 13, 14, 15, 16, 17, 18, 19, 20, 21, 22, 23, 24, 25, 26, 27, 28, 29, 30, 31, 32, 33, 34, 35, 36, 37, 38, 39, 40, 41, 42, 43, 44, 45, 46, 47, 48, 49, 50, 51, 52, 53, 54, 55, 56, 57, 58, 59, 60, 61, 62, 63, 64, 65, 66, 67, 68, 69], [0, 1, 2, 3, 4, 5, 6, 7, 8, 9, 10, 11, 12, 13, 14, 15, 16, 17, 18, 19, 20, 21, 22, 23, 24, 25, 26, 27, 28, 29, 30, 31, 32, 33, 34, 35, 36, 37, 38, 39, 40, 41, 42, 43, 44, 45, 46, 47, 48, 49, 50, 51, 52, 53, 54, 55, 56, 57, 58, 59, 60, 61, 62, 63, 64, 65, 66, 67, 68, 69, 70], [0, 1, 2, 3, 4, 5, 6, 7, 8, 9, 10, 11, 12, 13, 14, 15, 16, 17, 18, 19, 20, 21, 22, 23, 24, 25, 26, 27, 28, 29, 30, 31, 32, 33, 34, 35, 36, 37, 38, 39, 40, 41, 42, 43, 44, 45, 46, 47, 48, 49, 50, 51, 52, 53, 54, 55, 56, 57, 58, 59, 60, 61, 62, 63, 64, 65, 66, 67, 68, 69, 70, 71], [0, 1, 2, 3, 4, 5, 6, 7, 8, 9, 10, 11, 12, 13, 14, 15, 16, 17, 18, 19, 20, 21, 22, 23, 24, 25, 26, 27, 28, 29, 30, 31, 32, 33, 34, 35, 36, 37, 38, 39, 40, 41, 42, 43, 44, 45, 46, 47, 48, 49, 50, 51, 52, 53, 54, 55, 56, 57, 58, 59, 60, 61, 62, 63, 64, 65, 66, 67, 68, 69, 70, 71, 72], [0, 1, 2, 3, 4, 5, 6, 7, 8, 9, 10, 11, 12, 13, 14, 15, 16, 17, 18, 19, 20, 21, 22, 23, 24, 25, 26, 27, 28, 29, 30, 31, 32, 33, 34, 35, 36, 37, 38, 39, 40, 41, 42, 43, 44, 45, 46, 47, 48, 49, 50, 51, 52, 53, 54, 55, 56, 57, 58, 59, 60, 61, 62, 63, 64, 65, 66, 67, 68, 69, 70, 71, 72, 73], [0, 1, 2, 3, 4, 5, 6, 7, 8, 9, 10, 11, 12, 13, 14, 15, 16, 17, 18, 19, 20, 21, 22, 23, 24, 25, 26, 27, 28, 29, 30, 31, 32, 33, 34, 35, 36, 37, 38, 39, 40, 41, 42, 43, 44, 45, 46, 47, 48, 49, 50, 51, 52, 53, 54, 55, 56, 57, 58, 59, 60, 61, 62, 63, 64, 65, 66, 67, 68, 69, 70, 71, 72, 73, 74]] (by kernel_rfl) (by kernel_rfl) (by kernel_rfl) (by kernel_rfl) [0] [] (by kernel_rfl)
      ⟨⟨⟨⟨⟨⟨⟨⟨⟨⟨⟨⟨⟨⟨⟨⟨⟨⟨⟨⟨⟨⟨⟨⟨⟨⟨⟨⟨⟨⟨⟨⟨⟨⟨⟨⟨⟨⟨⟨⟨⟨⟨⟨⟨⟨⟨⟨⟨⟨⟨⟨⟨⟨⟨⟨⟨⟨⟨⟨⟨⟨⟨⟨⟨⟨⟨⟨⟨⟨⟨⟨⟨⟨⟨⟨⟨trivial,
      tri_quietW (fun β => []) [0] [0] (fun β => [(pA b2, pA b2)]) (by kernel_rfl) (fun β extra => by kernel_rfl) (by kernel_rfl) (fun β => ⟨rfl, trivial⟩)⟩,
      tri_callVW (fun β => .agg #[iV 4, iV 6]) (fun β => by kernel_rfl) 10 (fun β => #[iV 4, iV 6]) (by kernel_rfl) (fun β extra => by kernel_rfl) (fun β => by kernel_rfl) (fun β w1 k1 h1 => span_any 4 6 w1)⟩,
      tri_vVW (fun β => .bool true) (fun β => by kernel_rfl) (fun β => ((do eqGuard .eql 23 (.tmp 64) (.tmp 65) (.agg #[iV 4, iV 6]) (.agg #[iV 4, iV 6]); binOp .eql 23 (.agg #[iV 4, iV 6]) (.agg #[iV 4, iV 6])) >>= fun v => pure (Next.value v))) (by kernel_rfl) (fun β extra => by kernel_rfl) (fun β => by kernel_rfl) (fun β w1 k1 h1 => eq_span (.tmp 64) (.tmp 65) 4 6 4 6 w1)⟩,
      tri_quietW (fun β => []) [] [] (fun β => []) (by kernel_rfl) (fun β extra => by kernel_rfl) (by kernel_rfl) (fun β => trivial)⟩,
      tri_quietW (fun β => []) [] [] (fun β => []) (by kernel_rfl) (fun β extra => by kernel_rfl) (by kernel_rfl) (fun β => trivial)⟩,
      tri_quietW (fun β => [(69, .bool true)]) [] [] (fun β => [(.bool true, .bool true)]) (by kernel_rfl) (fun β extra => by kernel_rfl) (by kernel_rfl) (fun β => ⟨rfl, trivial⟩)⟩,
      tri_quietW (fun β => []) [] [] (fun β => []) (by kernel_rfl) (fun β extra => by kernel_rfl) (by kernel_rfl) (fun β => trivial)⟩,
      tri_quietW (fun β => []) [] [] (fun β => []) (by kernel_rfl) (fun β extra => by kernel_rfl) (by kernel_rfl) (fun β => trivial)⟩,
      tri_quietW (fun β => []) [0] [0] (fun β => [(pA b4, pA b4)]) (by kernel_rfl) (fun β extra => by kernel_rfl) (by kernel_rfl) (fun β => ⟨rfl, trivial⟩)⟩,
      tri_callVW (fun β => .agg #[iV 40, iV 52]) (fun β => by kernel_rfl) 10 (fun β => #[iV 40, iV 52]) (by kernel_rfl) (fun β extra => by kernel_rfl) (fun β => by kernel_rfl) (fun β w1 k1 h1 => span_any 40 52 w1)⟩,
      tri_vVW (fun β => .bool true) (fun β => by kernel_rfl) (fun β => ((do eqGuard .eql 23 (.tmp 72) (.tmp 73) (.agg #[iV 40, iV 52]) (.agg #[iV 40, iV 52]); binOp .eql 23 (.agg #[iV 40, iV 52]) (.agg #[iV 40, iV 52])) >>= fun v => pure (Next.value v))) (by kernel_rfl) (fun β extra => by kernel_rfl) (fun β => by kernel_rfl) (fun β w1 k1 h1 => eq_span (.tmp 72) (.tmp 73) 40 52 40 52 w1)⟩,
      tri_quietW (fun β => []) [] [] (fun β => []) (by kernel_rfl) (fun β extra => by kernel_rfl) (by kernel_rfl) (fun β => trivial)⟩,
      tri_quietW (fun β => []) [] [] (fun β => []) (by kernel_rfl) (fun β extra => by kernel_rfl) (by kernel_rfl) (fun β => trivial)⟩,
      tri_quietW (fun β => []) [] [] (fun β => []) (by kernel_rfl) (fun β extra => by kernel_rfl) (by kernel_rfl) (fun β => trivial)⟩,
      tri_quietW (fun β => [(78, .bool true)]) [] [] (fun β => [(.bool true, .bool true)]) (by kernel_rfl) (fun β extra => by kernel_rfl) (by kernel_rfl) (fun β => ⟨rfl, trivial⟩)⟩,
      tri_quietW (fun β => []) [] [] (fun β => []) (by kernel_rfl) (fun β extra => by kernel_rfl) (by kernel_rfl) (fun β => trivial)⟩,
      tri_quietW (fun β => []) [] [] (fun β => []) (by kernel_rfl) (fun β extra => by kernel_rfl) (by kernel_rfl) (fun β => trivial)⟩,
      tri_quietW (fun β => []) [] [] (fun β => []) (by kernel_rfl) (fun β extra => by kernel_rfl) (by kernel_rfl) (fun β => trivial)⟩,
      tri_quietW (fun β => [(82, .bool true)]) [] [] (fun β => [(.bool true, .bool true)]) (by kernel_rfl) (fun β extra => by kernel_rfl) (by kernel_rfl) (fun β => ⟨rfl, trivial⟩)⟩,
      tri_quietW (fun β => []) [] [] (fun β => []) (by kernel_rfl) (fun β extra => by kernel_rfl) (by kernel_rfl) (fun β => trivial)⟩,
      tri_quietW (fun β => []) [] [] (fun β => []) (by kernel_rfl) (fun β extra => by kernel_rfl) (by kernel_rfl) (fun β => trivial)⟩,
      tri_quietW (fun β => []) [] [] (fun β => []) (by kernel_rfl) (fun β extra => by kernel_rfl) (by kernel_rfl) (fun β => trivial)⟩,
      tri_quietW (fun β => [(86, .bool true)]) [] [] (fun β => [(.bool true, .bool true)]) (by kernel_rfl) (fun β extra => by kernel_rfl) (by kernel_rfl) (fun β => ⟨rfl, trivial⟩)⟩,
      tri_quietW (fun β => []) [] [] (fun β => []) (by kernel_rfl) (fun β extra => by kernel_rfl) (by kernel_rfl) (fun β => trivial)⟩,
      tri_quietW (fun β => []) [] [] (fun β => []) (by kernel_rfl) (fun β extra => by kernel_rfl) (by kernel_rfl) (fun β => trivial)⟩,
      tri_quietW (fun β => []) [] [] (fun β => []) (by kernel_rfl) (fun β extra => by kernel_rfl) (by kernel_rfl) (fun β => trivial)⟩,
      tri_quietW (fun β => [(90, .bool true)]) [] [] (fun β => [(.bool true, .bool true)]) (by kernel_rfl) (fun β extra => by kernel_rfl) (by kernel_rfl) (fun β => ⟨rfl, trivial⟩)⟩,
      tri_quietW (fun β => []) [] [] (fun β => []) (by kernel_rfl) (fun β extra => by kernel_rfl) (by kernel_rfl) (fun β => trivial)⟩,
      tri_quietW (fun β => []) [] [] (fun β => []) (by kernel_rfl) (fun β extra => by kernel_rfl) (by kernel_rfl) (fun β => trivial)⟩,
      tri_quietW (fun β => []) [] [] (fun β => []) (by kernel_rfl) (fun β extra => by kernel_rfl) (by kernel_rfl) (fun β => trivial)⟩,
      tri_quietW (fun β => [(94, .bool true)]) [] [] (fun β => [(.bool true, .bool true)]) (by kernel_rfl) (fun β extra => by kernel_rfl) (by kernel_rfl) (fun β => ⟨rfl, trivial⟩)⟩,
      tri_quietW (fun β => []) [] [] (fun β => []) (by kernel_rfl) (fun β extra => by kernel_rfl) (by kernel_rfl) (fun β => trivial)⟩,
      tri_quietW (fun β => []) [] [] (fun β => []) (by kernel_rfl) (fun β extra => by kernel_rfl) (by kernel_rfl) (fun β => trivial)⟩,
      tri_quietW (fun β => []) [] [] (fun β => []) (by kernel_rfl) (fun β extra => by kernel_rfl) (by kernel_rfl) (fun β => trivial)⟩,
      tri_quietW (fun β => [(98, .bool true)]) [] [] (fun β => [(.bool true, .bool true)]) (by kernel_rfl) (fun β extra => by kernel_rfl) (by kernel_rfl) (fun β => ⟨rfl, trivial⟩)⟩,
      tri_quietW (fun β => []) [] [] (fun β => []) (by kernel_rfl) (fun β extra => by kernel_rfl) (by kernel_rfl) (fun β => trivial)⟩,
      tri_quietW (fun β => []) [] [] (fun β => []) (by kernel_rfl) (fun β extra => by kernel_rfl) (by kernel_rfl) (fun β => trivial)⟩,
      tri_quietW (fun β => []) [] [] (fun β => []) (by kernel_rfl) (fun β extra => by kernel_rfl) (by kernel_rfl) (fun β => trivial)⟩,
      tri_quietW (fun β => [(102, .bool true)]) [] [] (fun β => [(.bool true, .bool true)]) (by kernel_rfl) (fun β extra => by kernel_rfl) (by kernel_rfl) (fun β => ⟨rfl, trivial⟩)⟩,
      tri_quietW (fun β => []) [] [] (fun β => []) (by kernel_rfl) (fun β extra => by kernel_rfl) (by kernel_rfl) (fun β => trivial)⟩,
      tri_quietW (fun β => []) [] [] (fun β => []) (by kernel_rfl) (fun β extra => by kernel_rfl) (by kernel_rfl) (fun β => trivial)⟩,
      tri_quietW (fun β => []) [] [] (fun β => []) (by kernel_rfl) (fun β extra => by kernel_rfl) (by kernel_rfl) (fun β => trivial)⟩,
      tri_callVW (fun β => .agg #[iV 1, iV 3]) (fun β => by kernel_rfl) 10 (fun β => #[iV 1, iV 3]) (by kernel_rfl) (fun β extra => by kernel_rfl) (fun β => by kernel_rfl) (fun β w1 k1 h1 => span_any 1 3 w1)⟩,
      tri_callVW (fun β => .agg #[iV 6, iV 12]) (fun β => by kernel_rfl) 10 (fun β => #[iV 6, iV 12]) (by kernel_rfl) (fun β extra => by kernel_rfl) (fun β => by kernel_rfl) (fun β w1 k1 h1 => span_any 6 12 w1)⟩,
      tri_newW 47 (fun β => aO #[iV 1, iV 3, iV 6, iV 12] 23) (fun β b => sV b 2 2) [0] (by kernel_rfl) (fun β extra b => by kernel_rfl) (by kernel_rfl) (fun β b => by kernel_rfl) (fun β b => by kernel_rfl) (fun β b => by kernel_rfl)⟩,
      tri_callVW (fun β => .bool true) (fun β => by kernel_rfl) 20 (fun β => #[sV rg9 2 rc9, .slice (some ⟨(β 47), 0, none⟩) 2 2]) (by kernel_rfl) (fun β extra => by kernel_rfl) (fun β => by kernel_rfl) (fun β w1 k1 h1 => (by have h := rspans_any ([(1, 3), (6, 12)] : List Sp) ([(1, 3), (6, 12)] : List Sp) (some ⟨rg9, 0, none⟩) (some ⟨(β 47), 0, none⟩) rc9 2 w1 (Sps.of_flat (L := [(1, 3), (6, 12)]) (sp := rsp9) (by exact (h1 (rg9, cO (([(1, 3), (6, 12)] : List Sp).flatMap spR ++ rsp9) 23) (List.mem_of_getElem? (i := 0) (by kernel_rfl))))) (Sps.of_flat (L := [(1, 3), (6, 12)]) (sp := []) (by exact (h1 ((β 47), aO #[iV 1, iV 3, iV 6, iV 12] 23) (List.mem_of_getElem? (i := 1) (by kernel_rfl))))) (by decide); rw [show eqSps ([(1, 3), (6, 12)] : List Sp) ([(1, 3), (6, 12)] : List Sp) = true from by kernel_rfl] at h; exact h))⟩,
      tri_quietW (fun β => []) [] [] (fun β => []) (by kernel_rfl) (fun β extra => by kernel_rfl) (by kernel_rfl) (fun β => trivial)⟩,
      tri_quietW (fun β => []) [] [] (fun β => []) (by kernel_rfl) (fun β extra => by kernel_rfl) (by kernel_rfl) (fun β => trivial)⟩,
      tri_quietW (fun β => []) [] [] (fun β => []) (by kernel_rfl) (fun β extra => by kernel_rfl) (by kernel_rfl) (fun β => trivial)⟩,
      tri_quietW (fun β => [(113, .bool true)]) [] [] (fun β => [(.bool true, .bool true)]) (by kernel_rfl) (fun β extra => by kernel_rfl) (by kernel_rfl) (fun β => ⟨rfl, trivial⟩)⟩,
      tri_quietW (fun β => []) [] [] (fun β => []) (by kernel_rfl) (fun β extra => by kernel_rfl) (by kernel_rfl) (fun β => trivial)⟩,
      tri_quietW (fun β => []) [] [] (fun β => []) (by kernel_rfl) (fun β extra => by kernel_rfl) (by kernel_rfl) (fun β => trivial)⟩,
      tri_quietW (fun β => []) [] [] (fun β => []) (by kernel_rfl) (fun β extra => by kernel_rfl) (by kernel_rfl) (fun β => trivial)⟩,
      tri_quietW (fun β => [(117, .bool true)]) [] [] (fun β => [(.bool true, .bool true)]) (by kernel_rfl) (fun β extra => by kernel_rfl) (by kernel_rfl) (fun β => ⟨rfl, trivial⟩)⟩,
      tri_quietW (fun β => []) [] [] (fun β => []) (by kernel_rfl) (fun β extra => by kernel_rfl) (by kernel_rfl) (fun β => trivial)⟩,
      tri_quietW (fun β => []) [] [] (fun β => []) (by kernel_rfl) (fun β extra => by kernel_rfl) (by kernel_rfl) (fun β => trivial)⟩,
      tri_quietW (fun β => []) [] [] (fun β => []) (by kernel_rfl) (fun β extra => by kernel_rfl) (by kernel_rfl) (fun β => trivial)⟩,
      tri_quietW (fun β => [(121, .bool true)]) [] [] (fun β => [(.bool true, .bool true)]) (by kernel_rfl) (fun β extra => by kernel_rfl) (by kernel_rfl) (fun β => ⟨rfl, trivial⟩)⟩,
      tri_quietW (fun β => []) [] [] (fun β => []) (by kernel_rfl) (fun β extra => by kernel_rfl) (by kernel_rfl) (fun β => trivial)⟩,
      tri_quietW (fun β => []) [] [] (fun β => []) (by kernel_rfl) (fun β extra => by kernel_rfl) (by kernel_rfl) (fun β => trivial)⟩,
      tri_quietW (fun β => []) [] [] (fun β => []) (by kernel_rfl) (fun β extra => by kernel_rfl) (by kernel_rfl) (fun β => trivial)⟩,
      tri_quietW (fun β => [(125, .bool true)]) [] [] (fun β => [(.bool true, .bool true)]) (by kernel_rfl) (fun β extra => by kernel_rfl) (by kernel_rfl) (fun β => ⟨rfl, trivial⟩)⟩,
      tri_quietW (fun β => []) [] [] (fun β => []) (by kernel_rfl) (fun β extra => by kernel_rfl) (by kernel_rfl) (fun β => trivial)⟩,
      tri_quietW (fun β => []) [] [] (fun β => []) (by kernel_rfl) (fun β extra => by kernel_rfl) (by kernel_rfl) (fun β => trivial)⟩,
      tri_quietW (fun β => []) [] [] (fun β => []) (by kernel_rfl) (fun β extra => by kernel_rfl) (by kernel_rfl) (fun β => trivial)⟩,
      tri_quietW (fun β => [(129, .bool true)]) [] [] (fun β => [(.bool true, .bool true)]) (by kernel_rfl) (fun β extra => by kernel_rfl) (by kernel_rfl) (fun β => ⟨rfl, trivial⟩)⟩,
      tri_quietW (fun β => []) [] [] (fun β => []) (by kernel_rfl) (fun β extra => by kernel_rfl) (by kernel_rfl) (fun β => trivial)⟩,
      tri_quietW (fun β => []) [] [] (fun β => []) (by kernel_rfl) (fun β extra => by kernel_rfl) (by kernel_rfl) (fun β => trivial)⟩,
      tri_quietW (fun β => []) [] [] (fun β => []) (by kernel_rfl) (fun β extra => by kernel_rfl) (by kernel_rfl) (fun β => trivial)⟩,
      tri_quietW (fun β => [(133, .bool true)]) [] [] (fun β => [(.bool true, .bool true)]) (by kernel_rfl) (fun β extra => by kernel_rfl) (by kernel_rfl) (fun β => ⟨rfl, trivial⟩)⟩,
      tri_quietW (fun β => []) [] [] (fun β => []) (by kernel_rfl) (fun β extra => by kernel_rfl) (by kernel_rfl) (fun β => trivial)⟩,
      tri_quietW (fun β => []) [] [] (fun β => []) (by kernel_rfl) (fun β extra => by kernel_rfl) (by kernel_rfl) (fun β => trivial)⟩,
      tri_quietW (fun β => []) [] [] (fun β => []) (by kernel_rfl) (fun β extra => by kernel_rfl) (by kernel_rfl) (fun β => trivial)⟩,
      tri_quietW (fun β => [(137, .bool true)]) [] [] (fun β => [(.bool true, .bool true)]) (by kernel_rfl) (fun β extra => by kernel_rfl) (by kernel_rfl) (fun β => ⟨rfl, trivial⟩)⟩,
      tri_quietW (fun β => []) [] [] (fun β => []) (by kernel_rfl) (fun β extra => by kernel_rfl) (by kernel_rfl) (fun β => trivial)⟩,
      tri_quietW (fun β => []) [] [] (fun β => []) (by kernel_rfl) (fun β extra => by kernel_rfl) (by kernel_rfl) (fun β => trivial)⟩
      (fun β => ⟨[(0, .bool true)], []⟩) (fun β => by kernel_rfl) (fun β13 => ?_)
  refine run_end (fn := f19) rfl (Nat.le_refl _) (by kernel_rfl) [] [.bool true] (e := []) (by kernel_rfl) trivial (fun w1 k1 h1 => ?_)
  exact ⟨rfl, k1.keeps (fun _ h => h)⟩

end Go.Proofs.Ytfjfkaaflghaiaa

namespace Go.Proofs.Ytfjfkaaflghaiaa
open Go.RowKit Go.Proofs.Try
attribute [local irreducible] Run wpK


theorem rem_run {P : Program} {w : World} {t : TypeId} (x y : Int) (hx : 0 ≤ x) (hy : 0 < y) : (binOp .rem t (.int .i64 x) (.int .i64 y) >>= fun v => pure (Next.value v)).run P w = .ok (.value (.int .i64 (x % y))) w := by
  have hy0 : ¬ y = 0 := by omega
  have h2 : x.tmod y = x % y := Int.tmod_eq_emod_of_nonneg hx
  simp [binOp, Op.intDiv, hy0, h2]
theorem emod_nat {x n : Int} (hn : 0 < n) : ∃ b : Nat, x % n = (b : Int) ∧ (b : Int) < n := by
  have h1 := Int.emod_nonneg x (show n ≠ 0 by omega)
  have h2 := Int.emod_lt_of_pos x hn
  exact ⟨(x % n).toNat, by omega, by omega⟩
end Go.Proofs.Ytfjfkaaflghaiaa

namespace Go.Proofs.Ytfjfkaaflghaiaa
open Go.RowKit Go.Proofs.Try
attribute [local irreducible] Run wpK


/-- A span that is near. -/
def nrS (n : Int) (e : Sp) : Prop := -n ≤ e.1 ∧ e.1 ≤ n ∧ -n ≤ e.2 ∧ e.2 ≤ n
theorem jdE_two {n : Int} {e : Sp} : jdE n e = 2 ↔ nrS n e := by
  unfold jdE nrS
  constructor
  · intro h
    split at h
    · assumption
    · split at h <;> cases h
  · intro h
    rw [if_pos h]
theorem judge_two {s : Sn} {b m : Nat} (hw : 0 < slW (elB s.bs b)) : s.judge b m = 2 ↔ ∀ i, i < slW (elB s.bs b) → s.jd b m i = 2 := by
  constructor
  · intro h i hi
    by_cases h2 : ∀ i, i < slW (elB s.bs b) → s.jd b m i = s.jd b m 0
    · rw [judge_all h2] at h
      rw [h2 i hi, h]
    · unfold Sn.judge at h
      rw [if_neg h2] at h
      cases h
  · intro h
    rw [judge_all fun i hi => by rw [h i hi, h 0 hw], h 0 hw]
theorem set_iff {s : Sn} (hF : s.Fine) {b m : Nat} (hb : b < s.bs.length) : s.set b m = true ↔ ∀ i, i < slW (elB s.bs b) → nrS s.near (s.en b (slN (elB s.bs b) i) m) := by
  have hw := slW_bd (hF.bkF hb)
  unfold Sn.set
  rw [beq_iff_eq, judge_two (by omega)]
  exact ⟨fun h i hi => jdE_two.1 (h i hi), fun h i hi => jdE_two.2 (h i hi)⟩
theorem frm_is {s : Sn} {Ns : List Nat} {N : Nat} : (s.frm Ns N = (0, false) ∧ s.sets Ns N = false) ∨ ∃ g : Nat, g ≤ N ∧ s.frm Ns N = ((g : Int), true) ∧ (∀ j, g ≤ j → j ≤ N → s.sets Ns j = true) ∧ (0 < g → s.sets Ns (g - 1) = false) := by
  rcases frN_is (pr := fun i => !s.sets Ns (N - i)) (n := N + 1) with ⟨h1, h2⟩ | ⟨y, h1, hy, hp, h2⟩
  · refine .inr ⟨0, Nat.zero_le _, ?_, fun j _ hj => ?_, fun h => absurd h (Nat.lt_irrefl _)⟩
    · unfold Sn.frm
      rw [h1]
      show (((N - N : Nat) : Int), true) = _
      rw [Nat.sub_self]
    · have := h2 (N - j) (by omega)
      rw [show N - (N - j) = j by omega] at this
      simpa using this
  · have hf : s.frm Ns N = (mnV N y, ask y) := by unfold Sn.frm; rw [h1]
    have hp : s.sets Ns (N - y) = false := by simpa using hp
    cases y with
    | zero => exact .inl ⟨hf, hp⟩
    | succ y =>
      refine .inr ⟨N - y, by omega, hf, fun j hj hj2 => ?_, fun _ => ?_⟩
      · have := h2 (N - j) (by omega)
        rw [show N - (N - j) = j by omega] at this
        simpa using this
      · rw [show N - y - 1 = N - (y + 1) by omega]; exact hp
theorem sets_one {s : Sn} {b m : Nat} : s.sets [b] m = s.set b m := by unfold Sn.sets; simp
theorem fallP_mono {x y k : Int} (hk : 1 ≤ k) (h : x ≤ y) : fallP x k ≤ fallP y k := by
  unfold fallP
  have h1 : (y + k - 1) / k ≤ (x + k - 1) / k + (y - x) := by
    have h2 : y + k - 1 ≤ (x + k - 1) + (y - x) * k := by
      have := Int.mul_le_mul_of_nonneg_left hk (show 0 ≤ y - x by omega)
      rw [Int.mul_one] at this
      omega
    calc (y + k - 1) / k ≤ ((x + k - 1) + (y - x) * k) / k := Int.ediv_le_ediv (by omega) h2
      _ = (x + k - 1) / k + (y - x) := Int.add_mul_ediv_right _ _ (by omega)
  omega
end Go.Proofs.Ytfjfkaaflghaiaa

namespace Go.Proofs.Ytfjfkaaflghaiaa
open Go.RowKit Go.Proofs.Try
attribute [local irreducible] Run wpK


theorem set_is {s : Sn} {b m : Nat} (hok : s.ok = true) (hb : b < s.bs.length) (hm : (m : Int) ≤ s.last) : setR s b m = .inr (s.judge b m) := by
  unfold setR Sn.isB Sn.isM inI
  rw [hok, decide_eq_true (show (0 : Int) ≤ (b : Int) ∧ (b : Int) ≤ (s.bs.length : Int) - 1 by omega), decide_eq_true (show (0 : Int) ≤ (m : Int) ∧ (m : Int) ≤ s.last by omega)]
  rfl
theorem lastN_is {s : Sn} (hok : s.ok = true) : 1 ≤ s.last ∧ s.last ≤ 60 := by
  unfold Sn.ok at hok
  simp only [Bool.and_eq_true] at hok
  exact of_decide_eq_true hok.1.1.2
def LatIs (s : Sn) (b : Nat) (h : Int) (m : Nat) (nv ne : Int) : Prop := (ne = 4 ∧ nv = 0 ∧ ∀ j, j ≤ m → latF s b h m j = false) ∨ ∃ y, y ≤ m ∧ ne = 0 ∧ nv = (m : Int) - (y : Int) ∧ latF s b h m y = true ∧ ∀ j, j < y → latF s b h m j = false
theorem LatIs.q {s : Sn} {b m : Nat} {h nv ne : Int} (H : LatIs s b h m nv ne) : (ne = 0 ∧ 0 ≤ nv ∧ nv ≤ (m : Int)) ∨ (ne = 4 ∧ nv = 0) := by
  rcases H with ⟨h1, h2, _⟩ | ⟨y, hy, h1, h2, _⟩
  · exact .inr ⟨h1, h2⟩
  · exact .inl ⟨h1, by omega, by omega⟩
end Go.Proofs.Ytfjfkaaflghaiaa
