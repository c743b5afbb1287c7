/-
  LAW: WearClash, walked.
-/
import Derived.Test.YtdjnkdelmmpleaaGreatHI1
namespace Go.Proofs.YtdjnkdelmmpleaaGreat
open Go.RowKit Go.Proofs.Tryz


theorem shl_le {k : Nat} (h : k ≤ 8) : 1 <<< k ≤ 256 := by
  rw [Nat.one_shiftLeft]
  exact Nat.pow_le_pow_right (by omega) h
theorem count_less {p q : Nat → Bool} {b : Nat} (h : ∀ x, q x = (p x && !decide (x = b))) (hb : p b = true) : ∀ l : List Nat, l.countP q ≤ l.countP p ∧ (b ∈ l → l.countP q < l.countP p)
  | [] => ⟨Nat.le_refl _, fun h => by cases h⟩
  | x :: l => by
    have ih := count_less h hb l
    rw [List.countP_cons, List.countP_cons]
    by_cases e : x = b
    · subst e
      rw [hb, show q x = false by rw [h]; simp]
      simp
      omega
    · have hq : q x = p x := by rw [h]; simp [e]
      rw [hq]
      refine ⟨by omega, fun hm => ?_⟩
      have := ih.2 ((List.mem_cons.1 hm).resolve_left (Ne.symm e))
      omega
def less (s i : Nat) : Nat := s ^^^ (s &&& 1 <<< i)
theorem less_bit (s i k : Nat) : (less s i).testBit k = (s.testBit k && !decide (k = i)) := by
  unfold less
  rw [Nat.testBit_xor, Nat.testBit_and, Nat.one_shiftLeft, Nat.testBit_two_pow]
  by_cases h : k = i
  · subst h
    cases s.testBit k <;> simp
  · cases s.testBit k <;> simp [h, Ne.symm h]
theorem less_fewer {s i : Nat} (hi : i < 8) (h : s.testBit i = true) : bitsN (less s i) < bitsN s :=
  (count_less (p := fun k => s.testBit k) (q := fun k => (less s i).testBit k) (b := i) (fun k => less_bit s i k) h (List.range 8)).2 (List.mem_range.2 hi)
theorem less_sub {s t i : Nat} (h : subB s t = true) : subB (less s i) t = true := by
  have h : s &&& t = s := by unfold subB at h; simpa using h
  unfold subB
  rw [beq_iff_eq]
  apply Nat.eq_of_testBit_eq
  intro k
  have h2 := congrArg (fun x => x.testBit k) h
  simp only [Nat.testBit_and] at h2
  rw [Nat.testBit_and, less_bit]
  revert h2
  cases s.testBit k <;> cases t.testBit k <;> simp
theorem cl_less {w : Wn} {c i : Nat} (hs : subB c w.reads = true) (hm : ∀ s, subB s w.reads = true → w.clB s = true → s = c ∨ Before c s) (hi : i < 8) (hb : c.testBit i = true) : w.clB (less c i) = false := by
  cases h : w.clB (less c i) with
  | false => rfl
  | true =>
    have h1 := less_fewer hi hb
    rcases hm _ (less_sub hs) h with h2 | h2
    · rw [h2] at h1; omega
    · unfold Before at h2; omega
def rdsN (p : Wb) (i : Nat) : Nat := bitsP (fun k => (elE p.n.es k).1 == 1) i
theorem and_sub (a b : Nat) : subB (a &&& b) b = true := by unfold subB; rw [Nat.and_assoc, Nat.and_self]; exact beq_self_eq_true _
theorem andNot_zero {c r : Nat} (h : subB c r = true) : (((c ^^^ (c &&& r) : Nat) : Int) != 0) = false := by rw [bne, sub_zero, h]; rfl
theorem less_lt8 (s i : Nat) (h : s < 256) : less s i < 256 := Nat.xor_lt_two_pow (n := 8) h (Nat.lt_of_le_of_lt Nat.and_le_left h)
set_option maxRecDepth 100000 in
set_option maxHeartbeats 4000000 in
theorem wearClash_any (p : Wb) (y : Int) (y1 : 0 ≤ y) (y2 : y ≤ 255) (w : World) (hp : p.In w) : Calls Tryz.prog 9 #[.agg #[.int .i64 p.ll, .int .i64 p.lh, .int .i64 p.ul, .int .i64 p.uh, .slice p.ea p.es.length p.ec], .int .u8 y] w (RetB true w) := by
  obtain ⟨yn, hyn⟩ : ∃ yn : Nat, y = (yn : Int) := ⟨y.toNat, by omega⟩
  refine calls_run (fn := f9) (c := (f9.body).getD .skip) [.agg #[.int .i64 p.ll, .int .i64 p.lh, .int .i64 p.ul, .int .i64 p.uh, .slice p.ea p.es.length p.ec], .int .u8 y] func9 (by kernel_rfl) (fun _ => False) [] (fun _ h => by cases h) (List.Pairwise.nil) 135 (by kernel_rfl) (by simp) ?_
  refine run_auto [] 2 [] [] [0, 1] [] (st' := ⟨[(0, .agg #[iV p.ll, iV p.lh, iV p.ul, iV p.uh, .slice p.ea p.es.length p.ec]), (1, .int .u8 y)], []⟩) (acc := []) (by kernel_rfl) (by kernel_rfl) trivial ?_
  refine run_new (aO #[iV p.ll, iV p.lh, iV p.ul, iV p.uh, .slice p.ea p.es.length p.ec] 26) (fun b1 => pA b1) (some 2) (fun _ => by kernel_rfl) (fun b1 hb1 => ?_)
  refine run_auto [] 6 [] [0] [1, 2, 4, 16] [0] (st' := ⟨[(1, .int .u8 y), (2, pA b1), (4, .bool false), (16, .agg #[iV p.ll, iV p.lh, iV p.ul, iV p.uh, .slice p.ea p.es.length p.ec])], [(b1, aO #[iV p.ll, iV p.lh, iV p.ul, iV p.uh, .slice p.ea p.es.length p.ec] 26)]⟩) (acc := [(pA b1, pA b1)]) (by kernel_rfl) (by kernel_rfl) ⟨rfl, trivial⟩ ?_
  cases hd1 : p.n.ok with
  | false =>
    refine run_ret1 28 #[.agg #[iV p.ll, iV p.lh, iV p.ul, iV p.uh, .slice p.ea p.es.length p.ec]] (some 17) (.bool false) (by kernel_rfl) (fun w1 k1 h1 => (by have h := fine_any p w1 (hp.keep (k1.keeps (fun _ h => h))); rw [hd1] at h; exact h)) ?_
    refine run_auto [(18, .bool true)] 5 [true] [] [1, 2, 4] [0] (st' := ⟨[(1, .int .u8 y), (2, pA b1), (4, .bool false)], [(b1, aO #[iV p.ll, iV p.lh, iV p.ul, iV p.uh, .slice p.ea p.es.length p.ec] 26)]⟩) (acc := [(.bool true, .bool true), (.bool true, .bool true)]) (by kernel_rfl) (by kernel_rfl) ⟨rfl, rfl, trivial⟩ ?_
    refine run_ret1 13 #[] (some 19) (.bool true) (by kernel_rfl) (fun w1 k1 h1 => awake_any w1) ?_
    refine run_auto [] 2 [] [] [1, 2, 4] [0] (st' := ⟨[(1, .int .u8 y), (2, pA b1), (4, .bool true)], [(b1, aO #[iV p.ll, iV p.lh, iV p.ul, iV p.uh, .slice p.ea p.es.length p.ec] 26)]⟩) (acc := []) (by kernel_rfl) (by kernel_rfl) trivial ?_
    refine run_end (fn := f9) rfl (Nat.le_refl _) (by kernel_rfl) [] [.bool true] (e := []) (by kernel_rfl) trivial (fun w1 k1 h1 => ?_)
    exact ⟨rfl, k1.keeps (fun _ h => h)⟩
  | true =>
    have hok := hd1
    have hF := Wn.fine hok
    have hn8 : p.es.length ≤ 8 := hF.n8
    have hr256 : p.n.reads < 256 := Nat.lt_of_lt_of_le (bitsP_lt (fun k => (elE p.n.es k).1 == 1) p.es.length) (pow_le8 hn8).1
    refine run_ret1 28 #[.agg #[iV p.ll, iV p.lh, iV p.ul, iV p.uh, .slice p.ea p.es.length p.ec]] (some 17) (.bool true) (by kernel_rfl) (fun w1 k1 h1 => (by have h := fine_any p w1 (hp.keep (k1.keeps (fun _ h => h))); rw [hd1] at h; exact h)) ?_
    refine run_auto [(18, .bool false)] 7 [false] [0] [1, 2, 4, 21] [0] (st' := ⟨[(1, .int .u8 y), (2, pA b1), (4, .bool false), (21, .agg #[iV p.ll, iV p.lh, iV p.ul, iV p.uh, .slice p.ea p.es.length p.ec])], [(b1, aO #[iV p.ll, iV p.lh, iV p.ul, iV p.uh, .slice p.ea p.es.length p.ec] 26)]⟩) (acc := [(pA b1, pA b1), (.bool false, .bool false), (.bool false, .bool false)]) (by kernel_rfl) (by kernel_rfl) ⟨rfl, rfl, rfl, trivial⟩ ?_
    cases hd2 : p.n.can with
    | false =>
      obtain ⟨c, hcl, hcb, hcs, ⟨hc1, hcr⟩, hcm⟩ := cl_is hF hd2
      have hc8 : c < 256 := by omega
      have hcb8 := (bits_half c hc8).2
      obtain ⟨ow, hyow⟩ : ∃ ow, ow = yn &&& p.n.reads := ⟨_, rfl⟩
      have how : ow < 256 := by have h := Nat.and_le_right (n := yn) (m := p.n.reads); omega
      have howb := (bits_half ow how).2
      refine run_ret1 26 #[.agg #[iV p.ll, iV p.lh, iV p.ul, iV p.uh, .slice p.ea p.es.length p.ec]] (some 22) (.tuple #[iV (c : Int), iV 0]) (by kernel_rfl) (fun w1 k1 h1 => (by have h := Clash_any p w1 (hp.keep (k1.keeps (fun _ h => h))); rw [show clashR p = .inr (c : Int) from by unfold clashR; rw [hok, hd2, hcl]; rfl] at h; exact h)) ?_
      refine run_auto [] 9 [] [0] [1, 2, 4, 5, 6, 26] [0] (st' := ⟨[(1, .int .u8 y), (2, pA b1), (4, .bool false), (5, iV (c : Int)), (6, iV 0), (26, .agg #[iV p.ll, iV p.lh, iV p.ul, iV p.uh, .slice p.ea p.es.length p.ec])], [(b1, aO #[iV p.ll, iV p.lh, iV p.ul, iV p.uh, .slice p.ea p.es.length p.ec] 26)]⟩) (acc := [(pA b1, pA b1)]) (by kernel_rfl) (by kernel_rfl) ⟨rfl, trivial⟩ ?_
      refine run_ret1 16 #[.agg #[iV p.ll, iV p.lh, iV p.ul, iV p.uh, .slice p.ea p.es.length p.ec]] (some 27) (.tuple #[.agg #[iV ((spA (lostR p)).1), iV ((spA (lostR p)).2)], iV 10]) (by kernel_rfl) (fun w1 k1 h1 => (by have h := Lost_any p w1 (hp.keep (k1.keeps (fun _ h => h))); rw [show erA (lostR p) = 10 from by unfold lostR; rw [hok, hd2]; rfl] at h; exact h)) ?_
      refine run_auto [] 3 [] [] [1, 2, 4, 5, 6, 28, 29] [0] (st' := ⟨[(1, .int .u8 y), (2, pA b1), (4, .bool false), (5, iV (c : Int)), (6, iV 0), (28, .agg #[iV ((spA (lostR p)).1), iV ((spA (lostR p)).2)]), (29, iV 10)], [(b1, aO #[iV p.ll, iV p.lh, iV p.ul, iV p.uh, .slice p.ea p.es.length p.ec] 26)]⟩) (acc := []) (by kernel_rfl) (by kernel_rfl) trivial ?_
      refine run_new (aO #[iV 0, iV 0] 23) (fun b2 => pA b2) (some 7) (fun _ => by kernel_rfl) (fun b2 hb2 => ?_)
      refine run_auto [(31, .bool false), (33, .bool false), (34, .bool false), (37, .bool false), (48, .bool false)] 47 [false, false] [0, 1] [1, 2, 4, 5, 9, 51, 52, 53] [1] (st' := ⟨[(1, .int .u8 y), (2, pA b1), (4, .bool false), (5, iV (c : Int)), (9, iV 0), (51, .slice p.ea p.es.length p.ec), (52, iV (p.es.length : Int)), (53, iV 0)], [(b1, aO #[iV p.ll, iV p.lh, iV p.ul, iV p.uh, .slice p.ea p.es.length p.ec] 26)]⟩) (acc := [(pA b1, pA b1), (.bool false, .bool false), (.bool false, .bool false), (.bool false, .bool false), (.bool false, .bool false), (.bool false, .bool false), (.bool false, .bool false), (.bool false, .bool false), (pA b2, pA b2)]) (by kernel_rfl) (by kernel_rfl) ⟨rfl, rfl, rfl, rfl, rfl, rfl, rfl, rfl, rfl, trivial⟩ ?_
      refine run_auto [] 0 [] [] [1, 2, 4, 5, 9, 51, 52, 53] [0] (st' := ⟨[(1, .int .u8 y), (2, pA b1), (4, .bool false), (5, iV (c : Int)), (9, iV 0), (51, .slice p.ea p.es.length p.ec), (52, iV (p.es.length : Int)), (53, iV 0)], [(b1, aO #[iV p.ll, iV p.lh, iV p.ul, iV p.uh, .slice p.ea p.es.length p.ec] 26)]⟩) (acc := []) (by kernel_rfl) (by kernel_rfl) trivial ?_
      refine run_loop (S := fun (q : Nat) => ⟨[(1, .int .u8 y), (2, pA b1), (4, .bool false), (5, iV (c : Int)), (9, iV ((rdsN p q : Nat) : Int)), (51, .slice p.ea p.es.length p.ec), (52, iV (p.es.length : Int)), (53, iV (q : Int))], [(b1, aO #[iV p.ll, iV p.lh, iV p.ul, iV p.uh, .slice p.ea p.es.length p.ec] 26)]⟩) (fun q => q ≤ p.es.length) (fun q => p.es.length - q) (0) (by kernel_rfl) (Nat.zero_le _) (by simp [rdsN, bitsP]) (fun q hI0 J0 hJ0 => ?_)
      have hrq : rdsN p q < 256 := Nat.lt_of_lt_of_le (bitsP_lt (fun k => (elE p.n.es k).1 == 1) q) (pow_le8 (by omega)).1
      have hsq := shl_le (k := q) (by omega)
      cases hd3 : (decide ((q : Int) < (p.es.length : Int))) with
      | false =>
        have hp3 := of_decide_eq_false hd3
        rw [show rdsN p q = p.n.reads from by rw [show q = p.es.length by omega]; rfl]
        cases hd4 : (decide ((c : Int) < 1)) with
        | false =>
          have hp4 := of_decide_eq_false hd4
          cases hd5 : (((c ^^^ (c &&& p.n.reads) : Nat) : Int) != 0) with
          | false =>
            have hp5 : ((c ^^^ (c &&& p.n.reads) : Nat) : Int) = 0 := by simpa using hd5
            refine run_auto [(54, .bool false), (68, .bool false), (72, iV ((c ^^^ (c &&& p.n.reads) : Nat) : Int)), (73, .bool false)] 26 [false] [] [1, 2, 4, 5, 9, 12, 75, 76, 77] [0] (st' := ⟨[(1, .int .u8 y), (2, pA b1), (4, .bool false), (5, iV (c : Int)), (9, iV (p.n.reads : Int)), (12, .func (.func 36) #[] #[pA b1]), (75, .bool false), (76, .func (.func 36) #[] #[pA b1]), (77, iV (c : Int))], [(b1, aO #[iV p.ll, iV p.lh, iV p.ul, iV p.uh, .slice p.ea p.es.length p.ec] 26)]⟩) (acc := [(.bool (((c ^^^ (c &&& p.n.reads) : Nat) : Int) != 0), .bool false), (iV (bits .andNot .i64 (c : Int) (p.n.reads : Int)), iV ((c ^^^ (c &&& p.n.reads) : Nat) : Int)), (.bool (decide ((c : Int) < 1)), .bool false), (.bool false, .bool false), (.bool (decide ((q : Int) < (p.es.length : Int))), .bool false)]) (by kernel_rfl) (by kernel_rfl) ⟨(bo hd5), ((andNot_nat c p.n.reads (by omega) (by omega)).trans rfl), (bo hd4), rfl, (bo hd3), trivial⟩ ?_
            refine run_ret1 36 #[iV (c : Int), pA b1] (some 78) (.bool true) (by kernel_rfl) (fun w1 k1 h1 => (by have h := clash_law p b1 c (by omega) w1 (hp.keep (k1.keeps (fun _ h => h))) hF (h1 (b1, aO #[iV p.ll, iV p.lh, iV p.ul, iV p.uh, .slice p.ea p.es.length p.ec] 26) (List.mem_of_getElem? (i := 0) (by kernel_rfl))); rw [hcb] at h; exact h)) ?_
            refine run_auto [(79, .bool false)] 14 [false] [0] [1, 4, 5, 9, 12, 83, 84] [0] (st' := ⟨[(1, .int .u8 y), (4, .bool false), (5, iV (c : Int)), (9, iV (p.n.reads : Int)), (12, .func (.func 36) #[] #[pA b1]), (83, iV (p.es.length : Int)), (84, iV 0)], [(b1, aO #[iV p.ll, iV p.lh, iV p.ul, iV p.uh, .slice p.ea p.es.length p.ec] 26)]⟩) (acc := [(pA b1, pA b1), (.bool false, .bool false), (.bool false, .bool false)]) (by kernel_rfl) (by kernel_rfl) ⟨rfl, rfl, rfl, trivial⟩ ?_
            refine run_auto [] 0 [] [] [1, 4, 5, 9, 12, 83, 84] [0] (st' := ⟨[(1, .int .u8 y), (4, .bool false), (5, iV (c : Int)), (9, iV (p.n.reads : Int)), (12, .func (.func 36) #[] #[pA b1]), (83, iV (p.es.length : Int)), (84, iV 0)], [(b1, aO #[iV p.ll, iV p.lh, iV p.ul, iV p.uh, .slice p.ea p.es.length p.ec] 26)]⟩) (acc := []) (by kernel_rfl) (by kernel_rfl) trivial ?_
            refine run_loop (S := fun (i : Nat) => ⟨[(1, .int .u8 y), (4, .bool false), (5, iV (c : Int)), (9, iV (p.n.reads : Int)), (12, .func (.func 36) #[] #[pA b1]), (83, iV (p.es.length : Int)), (84, iV (i : Int))], [(b1, aO #[iV p.ll, iV p.lh, iV p.ul, iV p.uh, .slice p.ea p.es.length p.ec] 26)]⟩) (fun i => i ≤ p.es.length) (fun i => p.es.length - i) (0) (by kernel_rfl) (Nat.zero_le _) (by kernel_rfl) (fun i hI1 J1 hJ1 => ?_)
            have hsi := shl_le (k := i) (by omega)
            cases hd6 : (decide ((i : Int) < (p.es.length : Int))) with
            | false =>
              have hp6 := of_decide_eq_false hd6
              refine run_auto [(85, .bool false), (102, iV (yn : Int)), (104, iV (ow : Int))] 20 [false] [] [4, 5, 14, 15, 105, 106] [0] (st' := ⟨[(4, .bool false), (5, iV (c : Int)), (14, iV (ow : Int)), (15, .func (.func 37) #[] #[]), (105, .func (.func 36) #[] #[pA b1]), (106, iV (ow : Int))], [(b1, aO #[iV p.ll, iV p.lh, iV p.ul, iV p.uh, .slice p.ea p.es.length p.ec] 26)]⟩) (acc := [(iV (bits .and .i64 (yn : Int) (p.n.reads : Int)), iV (ow : Int)), (iV (IntKind.i64.wrap y), iV (yn : Int)), (.bool false, .bool false), (.bool (decide ((i : Int) < (p.es.length : Int))), .bool false)]) (by kernel_rfl) (by kernel_rfl) ⟨((and_nat yn p.n.reads (by omega) (by omega)).trans (io (by rw [hyow]))), ((wr (by omega) (by omega)).trans (io hyn)), rfl, (bo hd6), trivial⟩ ?_
              cases hd7 : (p.n.clB ow) with
              | false =>
                refine run_ret1 36 #[iV (ow : Int), pA b1] (some 107) (.bool false) (by kernel_rfl) (fun w1 k1 h1 => (by have h := clash_law p b1 ow (by omega) w1 (hp.keep (k1.keeps (fun _ h => h))) hF (h1 (b1, aO #[iV p.ll, iV p.lh, iV p.ul, iV p.uh, .slice p.ea p.es.length p.ec] 26) (List.mem_of_getElem? (i := 0) (by kernel_rfl))); rw [hd7] at h; exact h)) ?_
                refine run_auto [(108, .bool true)] 25 [] [] [4, 132] [] (st' := ⟨[(4, .bool false), (132, .bool true)], []⟩) (acc := [(.bool true, .bool true)]) (by kernel_rfl) (by kernel_rfl) ⟨rfl, trivial⟩ ?_
                refine run_ret1 13 #[] (some 133) (.bool true) (by kernel_rfl) (fun w1 k1 h1 => awake_any w1) ?_
                refine run_auto [] 3 [] [] [4] [] (st' := ⟨[(4, .bool true)], []⟩) (acc := []) (by kernel_rfl) (by kernel_rfl) trivial ?_
                refine run_end (fn := f9) rfl (Nat.le_refl _) (by kernel_rfl) [] [.bool true] (e := []) (by kernel_rfl) trivial (fun w1 k1 h1 => ?_)
                exact ⟨rfl, k1.keeps (fun _ h => h)⟩
              | true =>
                have hOC := hcm ow (by rw [hyow]; exact and_sub _ _) hd7
                unfold Before at hOC
                have hOC2 : ow = c → bitsN ow = bitsN c := fun h => by rw [h]
                refine run_ret1 36 #[iV (ow : Int), pA b1] (some 107) (.bool true) (by kernel_rfl) (fun w1 k1 h1 => (by have h := clash_law p b1 ow (by omega) w1 (hp.keep (k1.keeps (fun _ h => h))) hF (h1 (b1, aO #[iV p.ll, iV p.lh, iV p.ul, iV p.uh, .slice p.ea p.es.length p.ec] 26) (List.mem_of_getElem? (i := 0) (by kernel_rfl))); rw [hd7] at h; exact h)) ?_
                refine run_auto [(108, .bool false)] 4 [] [] [4, 5, 14, 15, 109, 110, 111] [] (st' := ⟨[(4, .bool false), (5, iV (c : Int)), (14, iV (ow : Int)), (15, .func (.func 37) #[] #[]), (109, .bool false), (110, .func (.func 37) #[] #[]), (111, iV (ow : Int))], []⟩) (acc := [(.bool false, .bool false)]) (by kernel_rfl) (by kernel_rfl) ⟨rfl, trivial⟩ ?_
                refine run_ret1 37 #[iV (ow : Int)] (some 112) (iV ((bitsN ow : Nat) : Int)) (by kernel_rfl) (fun w1 k1 h1 => rsize_any ow (by omega) w1) ?_
                refine run_auto [] 2 [] [] [4, 5, 14, 15, 109, 112, 113, 114] [] (st' := ⟨[(4, .bool false), (5, iV (c : Int)), (14, iV (ow : Int)), (15, .func (.func 37) #[] #[]), (109, .bool false), (112, iV ((bitsN ow : Nat) : Int)), (113, .func (.func 37) #[] #[]), (114, iV (c : Int))], []⟩) (acc := []) (by kernel_rfl) (by kernel_rfl) trivial ?_
                refine run_ret1 37 #[iV (c : Int)] (some 115) (iV ((bitsN c : Nat) : Int)) (by kernel_rfl) (fun w1 k1 h1 => rsize_any c (by omega) w1) ?_
                cases hd8 : (decide (((bitsN c : Nat) : Int) < ((bitsN ow : Nat) : Int))) with
                | false =>
                  have hp8 := of_decide_eq_false hd8
                  refine run_auto [(116, .bool false)] 5 [] [] [4, 5, 14, 15, 118, 119, 120] [] (st' := ⟨[(4, .bool false), (5, iV (c : Int)), (14, iV (ow : Int)), (15, .func (.func 37) #[] #[]), (118, .bool false), (119, .func (.func 37) #[] #[]), (120, iV (ow : Int))], []⟩) (acc := [(.bool (decide (((bitsN c : Nat) : Int) < ((bitsN ow : Nat) : Int))), .bool false)]) (by kernel_rfl) (by kernel_rfl) ⟨(bo hd8), trivial⟩ ?_
                  refine run_ret1 37 #[iV (ow : Int)] (some 121) (iV ((bitsN ow : Nat) : Int)) (by kernel_rfl) (fun w1 k1 h1 => rsize_any ow (by omega) w1) ?_
                  refine run_auto [] 2 [] [] [4, 5, 14, 118, 121, 122, 123] [] (st' := ⟨[(4, .bool false), (5, iV (c : Int)), (14, iV (ow : Int)), (118, .bool false), (121, iV ((bitsN ow : Nat) : Int)), (122, .func (.func 37) #[] #[]), (123, iV (c : Int))], []⟩) (acc := []) (by kernel_rfl) (by kernel_rfl) trivial ?_
                  refine run_ret1 37 #[iV (c : Int)] (some 124) (iV ((bitsN c : Nat) : Int)) (by kernel_rfl) (fun w1 k1 h1 => rsize_any c (by omega) w1) ?_
                  cases hd9 : (((bitsN ow : Nat) : Int) == ((bitsN c : Nat) : Int)) with
                  | false =>
                    have hp9 : ¬ ((bitsN ow : Nat) : Int) = ((bitsN c : Nat) : Int) := by simpa using hd9
                    refine run_auto [(125, .bool false)] 12 [] [] [4] [] (st' := ⟨[(4, .bool false)], []⟩) (acc := [(.bool (((bitsN ow : Nat) : Int) == ((bitsN c : Nat) : Int)), .bool false)]) (by kernel_rfl) (by kernel_rfl) ⟨(bo hd9), trivial⟩ ?_
                    refine run_end (fn := f9) rfl (Nat.le_refl _) (by kernel_rfl) [] [.bool false] (e := []) (by kernel_rfl) trivial (fun w1 k1 h1 => ?_)
                    exfalso
                    omega
                  | true =>
                    have hp9 : ((bitsN ow : Nat) : Int) = ((bitsN c : Nat) : Int) := by simpa using hd9
                    cases hd10 : (decide ((c : Int) ≤ (ow : Int))) with
                    | false =>
                      have hp10 := of_decide_eq_false hd10
                      refine run_auto [(125, .bool true), (129, .bool false)] 12 [] [] [4] [] (st' := ⟨[(4, .bool false)], []⟩) (acc := [(.bool (decide ((c : Int) ≤ (ow : Int))), .bool false), (.bool (((bitsN ow : Nat) : Int) == ((bitsN c : Nat) : Int)), .bool true)]) (by kernel_rfl) (by kernel_rfl) ⟨(bo hd10), (bo hd9), trivial⟩ ?_
                      refine run_end (fn := f9) rfl (Nat.le_refl _) (by kernel_rfl) [] [.bool false] (e := []) (by kernel_rfl) trivial (fun w1 k1 h1 => ?_)
                      exfalso
                      omega
                    | true =>
                      have hp10 := of_decide_eq_true hd10
                      refine run_auto [(125, .bool true), (129, .bool true)] 8 [] [] [4, 132] [] (st' := ⟨[(4, .bool false), (132, .bool true)], []⟩) (acc := [(.bool (decide ((c : Int) ≤ (ow : Int))), .bool true), (.bool (((bitsN ow : Nat) : Int) == ((bitsN c : Nat) : Int)), .bool true)]) (by kernel_rfl) (by kernel_rfl) ⟨(bo hd10), (bo hd9), trivial⟩ ?_
                      refine run_ret1 13 #[] (some 133) (.bool true) (by kernel_rfl) (fun w1 k1 h1 => awake_any w1) ?_
                      refine run_auto [] 3 [] [] [4] [] (st' := ⟨[(4, .bool true)], []⟩) (acc := []) (by kernel_rfl) (by kernel_rfl) trivial ?_
                      refine run_end (fn := f9) rfl (Nat.le_refl _) (by kernel_rfl) [] [.bool true] (e := []) (by kernel_rfl) trivial (fun w1 k1 h1 => ?_)
                      exact ⟨rfl, k1.keeps (fun _ h => h)⟩
                | true =>
                  have hp8 := of_decide_eq_true hd8
                  refine run_auto [(116, .bool true)] 17 [] [] [4, 132] [] (st' := ⟨[(4, .bool false), (132, .bool true)], []⟩) (acc := [(.bool (decide (((bitsN c : Nat) : Int) < ((bitsN ow : Nat) : Int))), .bool true)]) (by kernel_rfl) (by kernel_rfl) ⟨(bo hd8), trivial⟩ ?_
                  refine run_ret1 13 #[] (some 133) (.bool true) (by kernel_rfl) (fun w1 k1 h1 => awake_any w1) ?_
                  refine run_auto [] 3 [] [] [4] [] (st' := ⟨[(4, .bool true)], []⟩) (acc := []) (by kernel_rfl) (by kernel_rfl) trivial ?_
                  refine run_end (fn := f9) rfl (Nat.le_refl _) (by kernel_rfl) [] [.bool true] (e := []) (by kernel_rfl) trivial (fun w1 k1 h1 => ?_)
                  exact ⟨rfl, k1.keeps (fun _ h => h)⟩
            | true =>
              have hp6 := of_decide_eq_true hd6
              have hil : i < p.es.length := by omega
              have hlsb := less_lt8 c i hc8
              refine run_auto [(85, .bool true)] 18 [true] [] [1, 4, 5, 9, 12, 83, 84, 13, 87, 88] [0] (st' := ⟨[(1, .int .u8 y), (4, .bool false), (5, iV (c : Int)), (9, iV (p.n.reads : Int)), (12, .func (.func 36) #[] #[pA b1]), (83, iV (p.es.length : Int)), (84, iV (i : Int)), (13, iV (i : Int)), (87, iV (c : Int)), (88, iV (i : Int))], [(b1, aO #[iV p.ll, iV p.lh, iV p.ul, iV p.uh, .slice p.ea p.es.length p.ec] 26)]⟩) (acc := [(.bool true, .bool true), (.bool (decide ((i : Int) < (p.es.length : Int))), .bool true)]) (by kernel_rfl) (by kernel_rfl) ⟨rfl, (bo hd6), trivial⟩ ?_
              refine run_v (binOp .shr 3 (iV (c : Nat)) (iV (i : Nat)) >>= fun v => pure (Next.value v)) (some 89) (iV ((c >>> i : Nat) : Int)) (by kernel_rfl) (fun w1 k1 h1 => shr_run c i (by omega)) ?_
              cases hd7 : (c.testBit i) with
              | false =>
                refine run_auto [(90, iV (((c >>> i : Nat) &&& 1 : Nat) : Int)), (91, .bool false), (100, iV ((i + 1 : Nat) : Int))] 18 [false] [] [1, 4, 5, 9, 12, 83, 84] [0] (st' := ⟨[(1, .int .u8 y), (4, .bool false), (5, iV (c : Int)), (9, iV (p.n.reads : Int)), (12, .func (.func 36) #[] #[pA b1]), (83, iV (p.es.length : Int)), (84, iV ((i + 1 : Nat) : Int))], [(b1, aO #[iV p.ll, iV p.lh, iV p.ul, iV p.uh, .slice p.ea p.es.length p.ec] 26)]⟩) (acc := [(iV (IntKind.i64.wrap ((i : Int) + 1)), iV ((i + 1 : Nat) : Int)), (.bool false, .bool false), (.bool ((((c >>> i : Nat) &&& 1 : Nat) : Int) == 1), .bool false), (iV (bits .and .i64 ((c >>> i : Nat) : Int) 1), iV (((c >>> i : Nat) &&& 1 : Nat) : Int))]) (by kernel_rfl) (by kernel_rfl) ⟨(wr (by omega) (by omega)), rfl, ((bo (has_bit c i)).trans (bo hd7)), (and_nat (c >>> i : Nat) 1 (by have := Nat.shiftRight_le c i; omega) (by omega)), trivial⟩ ?_
                exact run_round (by kernel_rfl) (hJ1 (i + 1) (by omega) (by omega))
              | true =>
                refine run_auto [(90, iV (((c >>> i : Nat) &&& 1 : Nat) : Int)), (91, .bool true)] 6 [] [] [1, 4, 5, 9, 12, 83, 84, 92, 93, 94, 95] [0] (st' := ⟨[(1, .int .u8 y), (4, .bool false), (5, iV (c : Int)), (9, iV (p.n.reads : Int)), (12, .func (.func 36) #[] #[pA b1]), (83, iV (p.es.length : Int)), (84, iV (i : Int)), (92, .bool true), (93, .func (.func 36) #[] #[pA b1]), (94, iV (c : Int)), (95, iV (i : Int))], [(b1, aO #[iV p.ll, iV p.lh, iV p.ul, iV p.uh, .slice p.ea p.es.length p.ec] 26)]⟩) (acc := [(.bool ((((c >>> i : Nat) &&& 1 : Nat) : Int) == 1), .bool true), (iV (bits .and .i64 ((c >>> i : Nat) : Int) 1), iV (((c >>> i : Nat) &&& 1 : Nat) : Int))]) (by kernel_rfl) (by kernel_rfl) ⟨((bo (has_bit c i)).trans (bo hd7)), (and_nat (c >>> i : Nat) 1 (by have := Nat.shiftRight_le c i; omega) (by omega)), trivial⟩ ?_
                refine run_v (binOp .shl 3 (iV (1 : Nat)) (iV (i : Nat)) >>= fun v => pure (Next.value v)) (some 96) (iV ((1 <<< i : Nat) : Int)) (by kernel_rfl) (fun w1 k1 h1 => shl_run 1 i (by omega) (by have := shl_le (k := i) (by omega); omega)) ?_
                refine run_auto [(97, iV ((less c i : Nat) : Int))] 1 [] [] [1, 4, 5, 9, 12, 83, 84, 92, 93, 97] [0] (st' := ⟨[(1, .int .u8 y), (4, .bool false), (5, iV (c : Int)), (9, iV (p.n.reads : Int)), (12, .func (.func 36) #[] #[pA b1]), (83, iV (p.es.length : Int)), (84, iV (i : Int)), (92, .bool true), (93, .func (.func 36) #[] #[pA b1]), (97, iV ((less c i : Nat) : Int))], [(b1, aO #[iV p.ll, iV p.lh, iV p.ul, iV p.uh, .slice p.ea p.es.length p.ec] 26)]⟩) (acc := [(iV (bits .andNot .i64 (c : Int) ((1 <<< i : Nat) : Int)), iV ((less c i : Nat) : Int))]) (by kernel_rfl) (by kernel_rfl) ⟨((andNot_nat c (1 <<< i) (by omega) (by omega)).trans rfl), trivial⟩ ?_
                cases hd8 : (p.n.clB (less c i)) with
                | false =>
                  refine run_ret1 36 #[iV ((less c i : Nat) : Int), pA b1] (some 98) (.bool false) (by kernel_rfl) (fun w1 k1 h1 => (by have h := clash_law p b1 (less c i) (by have := less_lt8 c i hc8; omega) w1 (hp.keep (k1.keeps (fun _ h => h))) hF (h1 (b1, aO #[iV p.ll, iV p.lh, iV p.ul, iV p.uh, .slice p.ea p.es.length p.ec] 26) (List.mem_of_getElem? (i := 0) (by kernel_rfl))); rw [hd8] at h; exact h)) ?_
                  refine run_auto [(100, iV ((i + 1 : Nat) : Int))] 9 [false] [] [1, 4, 5, 9, 12, 83, 84] [0] (st' := ⟨[(1, .int .u8 y), (4, .bool false), (5, iV (c : Int)), (9, iV (p.n.reads : Int)), (12, .func (.func 36) #[] #[pA b1]), (83, iV (p.es.length : Int)), (84, iV ((i + 1 : Nat) : Int))], [(b1, aO #[iV p.ll, iV p.lh, iV p.ul, iV p.uh, .slice p.ea p.es.length p.ec] 26)]⟩) (acc := [(iV (IntKind.i64.wrap ((i : Int) + 1)), iV ((i + 1 : Nat) : Int)), (.bool false, .bool false)]) (by kernel_rfl) (by kernel_rfl) ⟨(wr (by omega) (by omega)), rfl, trivial⟩ ?_
                  exact run_round (by kernel_rfl) (hJ1 (i + 1) (by omega) (by omega))
                | true =>
                  rw [cl_less hcs hcm (by omega) hd7] at hd8
                  cases hd8
          | true =>
            have hp5 : ¬ ((c ^^^ (c &&& p.n.reads) : Nat) : Int) = 0 := by simpa using hd5
            rw [andNot_zero hcs] at hd5
            cases hd5
        | true =>
          have hp4 := of_decide_eq_true hd4
          exfalso
          omega
      | true =>
        have hp3 := of_decide_eq_true hd3
        have hlt : q < p.es.length := by omega
        obtain ⟨be, oe, hbe, hc⟩ := hp.ev (by intro h; rw [h] at hlt; cases hlt)
        have hc := hc q hlt
        refine run_auto [(54, .bool true)] 12 [true] [] [1, 2, 4, 5, 9, 51, 52, 53, 55] [0] (st' := ⟨[(1, .int .u8 y), (2, pA b1), (4, .bool false), (5, iV (c : Int)), (9, iV ((rdsN p q : Nat) : Int)), (51, .slice p.ea p.es.length p.ec), (52, iV (p.es.length : Int)), (53, iV (q : Int)), (55, iV (q : Int))], [(b1, aO #[iV p.ll, iV p.lh, iV p.ul, iV p.uh, .slice p.ea p.es.length p.ec] 26)]⟩) (acc := [(.bool true, .bool true), (.bool (decide ((q : Int) < (p.es.length : Int))), .bool true)]) (by kernel_rfl) (by kernel_rfl) ⟨rfl, (bo hd3), trivial⟩ ?_
        refine run_v (Instr.indexAt 24 (.slice p.ea p.es.length p.ec) (iV (q : Int)) >>= fun v => pure (Next.value v)) (some 56) (.pointer (some ⟨be, oe + q * 4, none⟩)) (by kernel_rfl) (fun w1 k1 h1 => (by rw [hbe]; exact idx_off (e := 55) (n := 4) (by kernel_rfl) (by kernel_rfl) be oe p.es.length p.ec .i64 q hlt (oe + q * 4) (by omega) w1)) ?_
        refine run_v (Instr.loadAt 55 (.pointer (some ⟨be, oe + q * 4, none⟩)) >>= fun v => pure (Next.value v)) (some 57) (.agg #[iV (elE p.es q).1, iV (elE p.es q).2.1, iV (elE p.es q).2.2.1, iV (elE p.es q).2.2.2]) (by kernel_rfl) (fun w1 k1 h1 => load_in (off := 0) k1 (fun h => h) [iV (elE p.es q).1, iV (elE p.es q).2.1, iV (elE p.es q).2.2.1, iV (elE p.es q).2.2.2] (c4 hc.1 hc.2.1 hc.2.2.1 hc.2.2.2) (by kernel_rfl)) ?_
        refine run_new (aO #[iV 0, iV 0, iV 0, iV 0] 55) (fun b3 => pA b3) (some 11) (fun _ => by kernel_rfl) (fun b3 hb3 => ?_)
        cases hd4 : ((elE p.es q).1 == 1) with
        | false =>
          have hp4 : ¬ (elE p.es q).1 = 1 := by simpa using hd4
          refine run_auto [(60, .bool false), (65, iV ((q + 1 : Nat) : Int))] 16 [false] [0, 0] [1, 2, 4, 5, 9, 51, 52, 53] [1] (st' := ⟨[(1, .int .u8 y), (2, pA b1), (4, .bool false), (5, iV (c : Int)), (9, iV ((rdsN p q : Nat) : Int)), (51, .slice p.ea p.es.length p.ec), (52, iV (p.es.length : Int)), (53, iV ((q + 1 : Nat) : Int))], [(b1, aO #[iV p.ll, iV p.lh, iV p.ul, iV p.uh, .slice p.ea p.es.length p.ec] 26)]⟩) (acc := [(iV (IntKind.i64.wrap ((q : Int) + 1)), iV ((q + 1 : Nat) : Int)), (.bool false, .bool false), (.bool ((elE p.es q).1 == 1), .bool false), (pA b3, pA b3), (pA b3, pA b3)]) (by kernel_rfl) (by kernel_rfl) ⟨(wr (by omega) (by omega)), rfl, (bo hd4), rfl, rfl, trivial⟩ ?_
          have hj := hJ0 (q + 1) (by omega) (by omega)
          rw [show rdsN p (q + 1) = rdsN p q from by unfold rdsN; rw [bitsP_next, show ((elE p.n.es q).1 == 1) = false from hd4]; rfl] at hj
          exact run_round (by kernel_rfl) hj
        | true =>
          have hp4 : (elE p.es q).1 = 1 := by simpa using hd4
          refine run_auto [(60, .bool true)] 13 [true] [0, 0] [1, 2, 4, 5, 9, 51, 52, 53, 61, 62] [1] (st' := ⟨[(1, .int .u8 y), (2, pA b1), (4, .bool false), (5, iV (c : Int)), (9, iV ((rdsN p q : Nat) : Int)), (51, .slice p.ea p.es.length p.ec), (52, iV (p.es.length : Int)), (53, iV (q : Int)), (61, iV ((rdsN p q : Nat) : Int)), (62, iV (q : Int))], [(b1, aO #[iV p.ll, iV p.lh, iV p.ul, iV p.uh, .slice p.ea p.es.length p.ec] 26)]⟩) (acc := [(.bool true, .bool true), (.bool ((elE p.es q).1 == 1), .bool true), (pA b3, pA b3), (pA b3, pA b3)]) (by kernel_rfl) (by kernel_rfl) ⟨rfl, (bo hd4), rfl, rfl, trivial⟩ ?_
          refine run_v (binOp .shl 3 (iV (1 : Nat)) (iV (q : Nat)) >>= fun v => pure (Next.value v)) (some 63) (iV ((1 <<< q : Nat) : Int)) (by kernel_rfl) (fun w1 k1 h1 => shl_run 1 q (by omega) (by have := shl_le (k := q) (by omega); omega)) ?_
          refine run_auto [(64, iV (((rdsN p q : Nat) ||| (1 <<< q : Nat) : Nat) : Int)), (65, iV ((q + 1 : Nat) : Int))] 8 [] [] [1, 2, 4, 5, 9, 51, 52, 53] [0] (st' := ⟨[(1, .int .u8 y), (2, pA b1), (4, .bool false), (5, iV (c : Int)), (9, iV (((rdsN p q : Nat) ||| (1 <<< q : Nat) : Nat) : Int)), (51, .slice p.ea p.es.length p.ec), (52, iV (p.es.length : Int)), (53, iV ((q + 1 : Nat) : Int))], [(b1, aO #[iV p.ll, iV p.lh, iV p.ul, iV p.uh, .slice p.ea p.es.length p.ec] 26)]⟩) (acc := [(iV (IntKind.i64.wrap ((q : Int) + 1)), iV ((q + 1 : Nat) : Int)), (iV (bits .or .i64 ((rdsN p q : Nat) : Int) ((1 <<< q : Nat) : Int)), iV (((rdsN p q : Nat) ||| (1 <<< q : Nat) : Nat) : Int))]) (by kernel_rfl) (by kernel_rfl) ⟨(wr (by omega) (by omega)), (or_nat (rdsN p q : Nat) (1 <<< q : Nat) (by omega) (by omega)), trivial⟩ ?_
          have hj := hJ0 (q + 1) (by omega) (by omega)
          rw [show rdsN p (q + 1) = rdsN p q ||| 1 <<< q from by unfold rdsN; rw [bitsP_next, show ((elE p.n.es q).1 == 1) = true from hd4]; rfl] at hj
          exact run_round (by kernel_rfl) hj
    | true =>
      refine run_ret1 26 #[.agg #[iV p.ll, iV p.lh, iV p.ul, iV p.uh, .slice p.ea p.es.length p.ec]] (some 22) (.tuple #[iV 0, iV 4]) (by kernel_rfl) (fun w1 k1 h1 => (by have h := Clash_any p w1 (hp.keep (k1.keeps (fun _ h => h))); rw [show clashR p = .inl 4 from by unfold clashR; rw [hok, hd2]; rfl] at h; exact h)) ?_
      refine run_auto [] 9 [] [0] [1, 2, 4, 5, 6, 26] [0] (st' := ⟨[(1, .int .u8 y), (2, pA b1), (4, .bool false), (5, iV 0), (6, iV 4), (26, .agg #[iV p.ll, iV p.lh, iV p.ul, iV p.uh, .slice p.ea p.es.length p.ec])], [(b1, aO #[iV p.ll, iV p.lh, iV p.ul, iV p.uh, .slice p.ea p.es.length p.ec] 26)]⟩) (acc := [(pA b1, pA b1)]) (by kernel_rfl) (by kernel_rfl) ⟨rfl, trivial⟩ ?_
      refine run_ret1 16 #[.agg #[iV p.ll, iV p.lh, iV p.ul, iV p.uh, .slice p.ea p.es.length p.ec]] (some 27) (.tuple #[.agg #[iV ((spA (lostR p)).1), iV ((spA (lostR p)).2)], iV 0]) (by kernel_rfl) (fun w1 k1 h1 => (by have h := Lost_any p w1 (hp.keep (k1.keeps (fun _ h => h))); rw [show erA (lostR p) = 0 from by unfold lostR; rw [hok, hd2]; rfl] at h; exact h)) ?_
      refine run_auto [] 3 [] [] [1, 2, 4, 5, 6, 28, 29] [0] (st' := ⟨[(1, .int .u8 y), (2, pA b1), (4, .bool false), (5, iV 0), (6, iV 4), (28, .agg #[iV ((spA (lostR p)).1), iV ((spA (lostR p)).2)]), (29, iV 0)], [(b1, aO #[iV p.ll, iV p.lh, iV p.ul, iV p.uh, .slice p.ea p.es.length p.ec] 26)]⟩) (acc := []) (by kernel_rfl) (by kernel_rfl) trivial ?_
      refine run_new (aO #[iV 0, iV 0] 23) (fun b2 => pA b2) (some 7) (fun _ => by kernel_rfl) (fun b2 hb2 => ?_)
      refine run_auto [(31, .bool true), (33, .bool true), (34, .bool false), (37, .bool true), (40, .bool false), (43, .bool false), (48, .bool true)] 35 [false, true] [0] [1, 2, 4, 5] [1] (st' := ⟨[(1, .int .u8 y), (2, pA b1), (4, .bool false), (5, iV 0)], [(b1, aO #[iV p.ll, iV p.lh, iV p.ul, iV p.uh, .slice p.ea p.es.length p.ec] 26)]⟩) (acc := [(.bool true, .bool true), (.bool true, .bool true), (.bool false, .bool false), (.bool false, .bool false), (.bool false, .bool false), (.bool true, .bool true), (.bool false, .bool false), (.bool true, .bool true), (.bool true, .bool true), (pA b2, pA b2)]) (by kernel_rfl) (by kernel_rfl) ⟨rfl, rfl, rfl, rfl, rfl, rfl, rfl, rfl, rfl, rfl, trivial⟩ ?_
      refine run_ret1 13 #[] (some 49) (.bool true) (by kernel_rfl) (fun w1 k1 h1 => awake_any w1) ?_
      refine run_auto [] 2 [] [] [1, 2, 4, 5] [0] (st' := ⟨[(1, .int .u8 y), (2, pA b1), (4, .bool true), (5, iV 0)], [(b1, aO #[iV p.ll, iV p.lh, iV p.ul, iV p.uh, .slice p.ea p.es.length p.ec] 26)]⟩) (acc := []) (by kernel_rfl) (by kernel_rfl) trivial ?_
      refine run_end (fn := f9) rfl (Nat.le_refl _) (by kernel_rfl) [] [.bool true] (e := []) (by kernel_rfl) trivial (fun w1 k1 h1 => ?_)
      exact ⟨rfl, k1.keeps (fun _ h => h)⟩

end Go.Proofs.YtdjnkdelmmpleaaGreat
