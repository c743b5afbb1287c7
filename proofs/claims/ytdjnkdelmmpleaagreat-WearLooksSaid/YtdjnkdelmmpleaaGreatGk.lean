/-
  REF: power, Has, takes, next, run, can, every, check.
  REF: can, every, check, after.
-/
import Derived.Test.YtdjnkdelmmpleaaGreatHE1
namespace Go.Proofs.YtdjnkdelmmpleaaGreat
open Go.RowKit Go.Proofs.Tryz


theorem quo_run {P : Program} {w : World} {t : TypeId} (x y : Int) (hx : 0 ≤ x) (hx2 : x ≤ 1000) (hy : 0 < y) : (binOp .quo t (.int .i64 x) (.int .i64 y) >>= fun v => pure (Next.value v)).run P w = .ok (.value (.int .i64 (x / y))) w := by
  have hy0 : ¬ y = 0 := by omega
  have h := qt (x := x) y hy hx (by omega)
  have h2 : IntKind.i64.wrap (x.tdiv y) = x / y := by injection h
  simp [binOp, Op.intDiv, hy0, h2]
theorem pow_le8 {n : Nat} (h : n ≤ 8) : 2 ^ n ≤ 256 ∧ 0 < 2 ^ n := ⟨Nat.pow_le_pow_right (by omega) h, Nat.two_pow_pos n⟩
theorem has_div (s n : Nat) : ((((s : Nat) : Int) / ((2 ^ n : Nat) : Int)) % 2 == 1) = s.testBit n := by
  rw [Nat.testBit_eq_decide_div_mod_eq, show (((s : Nat) : Int) / ((2 ^ n : Nat) : Int)) % 2 = ((s / 2 ^ n % 2 : Nat) : Int) from rfl]
  rcases Nat.mod_two_eq_zero_or_one (s / 2 ^ n) with h | h <;> rw [h] <;> rfl
/-- What an event can take off. -/
def takS (u : Sp) (e : Ev) : Sp := bif e.1 == 0 then manS e.2.1 u else bif e.1 == 2 then e.2.2 else (0, 0)
def nxE (u : Sp) (e : Ev) (rd : Bool) (l : Sp) : Sp := bif e.1 == 1 && rd then cutS (l.1 - (takS u e).2, l.2 - (takS u e).1) e.2.2 else (l.1 - (takS u e).2, l.2 - (takS u e).1)
/-- The lengths after events, by the readings of a set. -/
def rnF (u : Sp) (es : List Ev) (s : Nat) : Nat → Nat → Sp → Sp
  | 0, _, l => l
  | n + 1, i, l => bif possS l then rnF u es s n (i + 1) (nxE u (elE es i) (s.testBit i) l) else l
theorem rnF_step (u : Sp) (es : List Ev) (s n i : Nat) (l : Sp) : rnF u es s (n + 1) i l = bif possS l then rnF u es s n (i + 1) (nxE u (elE es i) (s.testBit i) l) else l := rfl
theorem rnF_not (u : Sp) (es : List Ev) (s : Nat) {l : Sp} (h : possS l = false) : ∀ n i, rnF u es s n i l = l
  | 0, _ => rfl
  | _ + 1, _ => by unfold rnF; rw [h]; rfl
theorem tak_bd {u : Sp} {e : Ev} (hu : 0 ≤ u.1 ∧ u.1 ≤ u.2 ∧ u.2 ≤ 3) (hv : vEv e = true) : 0 ≤ (takS u e).1 ∧ (takS u e).1 ≤ (takS u e).2 ∧ (takS u e).2 ≤ 60 := by
  unfold takS
  by_cases h0 : e.1 = 0
  · rw [show (e.1 == 0) = true by simpa using h0]; exact man_bd hu hv h0
  · rw [show (e.1 == 0) = false by simpa using h0]
    by_cases h2 : e.1 = 2
    · rw [show (e.1 == 2) = true by simpa using h2]; have := lap_bd hv h2; show 0 ≤ e.2.2.1 ∧ e.2.2.1 ≤ e.2.2.2 ∧ e.2.2.2 ≤ 60; omega
    · rw [show (e.1 == 2) = false by simpa using h2]; exact ⟨Int.le_refl _, Int.le_refl _, show (0 : Int) ≤ 60 by decide⟩
theorem nx_bd {u : Sp} {e : Ev} (hu : 0 ≤ u.1 ∧ u.1 ≤ u.2 ∧ u.2 ≤ 3) (hv : vEv e = true) (rd : Bool) {l : Sp} {c : Int} (hc : 1000 ≤ c) (hl : bdS l c) : bdS (nxE u e rd l) (c + 60) := by
  have ht := tak_bd hu hv
  have hd : bdS (l.1 - (takS u e).2, l.2 - (takS u e).1) (c + 60) := by unfold bdS at hl ⊢; dsimp only; omega
  unfold nxE
  by_cases h1 : e.1 = 1
  · rw [show (e.1 == 1) = true by simpa using h1]
    cases rd with
    | false => exact hd
    | true =>
      have hr := read_bd hv (by omega) (by omega)
      refine cut_bd hd (d := 1000) ?_ (by omega)
      unfold bdS; omega
  · rw [show (e.1 == 1) = false by simpa using h1]; exact hd
set_option maxRecDepth 100000 in
theorem power_any (n : Nat) (hn : n ≤ 8) (w : World)  : Calls Tryz.prog 60 #[.int .i64 (n : Int)] w (RetI ((2 ^ n : Nat) : Int) w) := by
  refine calls_run (fn := f60) (c := (f60.body).getD .skip) [.int .i64 (n : Int)] func60 (by kernel_rfl) (fun _ => False) [] (fun _ h => by cases h) (List.Pairwise.nil) 13 (by kernel_rfl) (by simp) ?_
  refine run_auto [] 14 [] [] [0, 2, 3, 4] [] (st' := ⟨[(0, iV (n : Int)), (2, iV 0), (3, iV 1), (4, iV 0)], []⟩) (acc := []) (by kernel_rfl) (by kernel_rfl) trivial ?_
  refine run_auto [] 0 [] [] [0, 2, 3, 4] [] (st' := ⟨[(0, iV (n : Int)), (2, iV 0), (3, iV 1), (4, iV 0)], []⟩) (acc := []) (by kernel_rfl) (by kernel_rfl) trivial ?_
  refine run_loop (S := fun (i : Nat) => ⟨[(0, iV (n : Int)), (2, iV 0), (3, iV ((2 ^ i : Nat) : Int)), (4, iV (i : Int))], []⟩) (fun i => i ≤ n) (fun i => n - i) (0) (by kernel_rfl) (Nat.zero_le _) (by simp) (fun i hI0 J0 hJ0 => ?_)
  have hpw := pow_le8 (n := i) (by omega)
  cases hd1 : (decide ((i : Int) < (n : Int))) with
  | false =>
    have hp1 := of_decide_eq_false hd1
    refine run_auto [(7, .bool false)] 14 [false] [] [2] [] (st' := ⟨[(2, iV ((2 ^ i : Nat) : Int))], []⟩) (acc := [(.bool false, .bool false), (.bool (decide ((i : Int) < (n : Int))), .bool false)]) (by kernel_rfl) (by kernel_rfl) ⟨rfl, (bo hd1), trivial⟩ ?_
    refine run_end (fn := f60) rfl (Nat.le_refl _) (by kernel_rfl) [] [iV ((2 ^ i : Nat) : Int)] (e := []) (by kernel_rfl) trivial (fun w1 k1 h1 => ?_)
    obtain rfl : i = n := by omega
    exact ⟨rfl, k1.keeps (fun _ h => h)⟩
  | true =>
    have hp1 := of_decide_eq_true hd1
    refine run_auto [(7, .bool true), (11, iV (2 * ((2 ^ i : Nat) : Int))), (9, iV ((i + 1 : Nat) : Int))] 22 [true] [] [0, 2, 3, 4] [] (st' := ⟨[(0, iV (n : Int)), (2, iV 0), (3, iV (2 * ((2 ^ i : Nat) : Int))), (4, iV ((i + 1 : Nat) : Int))], []⟩) (acc := [(iV (IntKind.i64.wrap ((i : Int) + 1)), iV ((i + 1 : Nat) : Int)), (iV (IntKind.i64.wrap (2 * ((2 ^ i : Nat) : Int))), iV (2 * ((2 ^ i : Nat) : Int))), (.bool true, .bool true), (.bool (decide ((i : Int) < (n : Int))), .bool true)]) (by kernel_rfl) (by kernel_rfl) ⟨(wr (by omega) (by omega)), (wr (by omega) (by omega)), rfl, (bo hd1), trivial⟩ ?_
    rw [show 2 * ((2 ^ i : Nat) : Int) = ((2 ^ (i + 1) : Nat) : Int) from by rw [Nat.pow_succ]; omega]
    exact run_round (by kernel_rfl) (hJ0 (i + 1) (by omega) (by omega))

set_option maxRecDepth 100000 in
theorem rhas_any (s n : Nat) (hs : s < 256) (hn : n ≤ 8) (w : World)  : Calls Tryz.prog 87 #[.int .i64 (s : Int), .int .i64 (n : Int)] w (RetB (s.testBit n) w) := by
  have hpw := pow_le8 hn
  have hdv : 0 ≤ (s : Int) / ((2 ^ n : Nat) : Int) ∧ (s : Int) / ((2 ^ n : Nat) : Int) ≤ 255 := by have h1 := Nat.div_le_self s (2 ^ n); exact ⟨Int.natCast_nonneg (s / 2 ^ n), show ((s / 2 ^ n : Nat) : Int) ≤ 255 by omega⟩
  refine calls_run (fn := f87) (c := (f87.body).getD .skip) [.int .i64 (s : Int), .int .i64 (n : Int)] func87 (by kernel_rfl) (fun _ => False) [] (fun _ h => by cases h) (List.Pairwise.nil) 11 (by kernel_rfl) (by simp) ?_
  refine run_auto [] 8 [] [] [4, 5, 6] [] (st' := ⟨[(4, .bool false), (5, iV (s : Int)), (6, iV (n : Int))], []⟩) (acc := []) (by kernel_rfl) (by kernel_rfl) trivial ?_
  refine run_ret1 60 #[iV (n : Int)] (some 7) (iV ((2 ^ n : Nat) : Int)) (by kernel_rfl) (fun w1 k1 h1 => power_any n (by omega) w1) ?_
  refine run_v (binOp .quo 3 (iV (s : Int)) (iV ((2 ^ n : Nat) : Int)) >>= fun v => pure (Next.value v)) (some 8) (iV ((s : Int) / ((2 ^ n : Nat) : Int))) (by kernel_rfl) (fun w1 k1 h1 => quo_run (s : Int) ((2 ^ n : Nat) : Int) (by omega) (by omega) (by omega)) ?_
  refine run_auto [(9, iV (((s : Int) / ((2 ^ n : Nat) : Int)) % 2))] 4 [] [] [4] [] (st' := ⟨[(4, .bool ((((s : Int) / ((2 ^ n : Nat) : Int)) % 2) == 1))], []⟩) (acc := [(iV (Int.tmod ((s : Int) / ((2 ^ n : Nat) : Int)) 2), iV (((s : Int) / ((2 ^ n : Nat) : Int)) % 2))]) (by kernel_rfl) (by kernel_rfl) ⟨(rm 2 (by omega)), trivial⟩ ?_
  refine run_end (fn := f87) rfl (Nat.le_refl _) (by kernel_rfl) [] [.bool ((((s : Int) / ((2 ^ n : Nat) : Int)) % 2) == 1)] (e := []) (by kernel_rfl) trivial (fun w1 k1 h1 => ?_)
  exact ⟨by rw [← has_div]; rfl, k1.keeps (fun _ h => h)⟩

set_option maxRecDepth 100000 in
theorem takes_any (p : Wb) (x : Ev) (w : World) (hu : 0 ≤ p.ul ∧ p.ul ≤ p.uh ∧ p.uh ≤ 3) (hv : vEv x = true) : Calls Tryz.prog 126 #[.agg #[.int .i64 p.ll, .int .i64 p.lh, .int .i64 p.ul, .int .i64 p.uh, .slice p.ea p.es.length p.ec], .agg #[.int .i64 (x).1, .int .i64 (x).2.1, .int .i64 (x).2.2.1, .int .i64 (x).2.2.2]] w (Ret (.agg #[.int .i64 (takS (p.ul, p.uh) x).1, .int .i64 (takS (p.ul, p.uh) x).2]) w) := by
  refine calls_run (fn := f126) (c := (f126.body).getD .skip) [.agg #[.int .i64 p.ll, .int .i64 p.lh, .int .i64 p.ul, .int .i64 p.uh, .slice p.ea p.es.length p.ec], .agg #[.int .i64 (x).1, .int .i64 (x).2.1, .int .i64 (x).2.2.1, .int .i64 (x).2.2.2]] func126 (by kernel_rfl) (fun _ => False) [] (fun _ h => by cases h) (List.Pairwise.nil) 27 (by kernel_rfl) (by simp) ?_
  refine run_auto [] 2 [] [] [0, 1] [] (st' := ⟨[(0, .agg #[iV p.ll, iV p.lh, iV p.ul, iV p.uh, .slice p.ea p.es.length p.ec]), (1, .agg #[iV (x).1, iV (x).2.1, iV (x).2.2.1, iV (x).2.2.2])], []⟩) (acc := []) (by kernel_rfl) (by kernel_rfl) trivial ?_
  refine run_new (aO #[iV p.ll, iV p.lh, iV p.ul, iV p.uh, .slice p.ea p.es.length p.ec] 26) (fun b1 => pA b1) (some 2) (fun _ => by kernel_rfl) (fun b1 hb1 => ?_)
  refine run_new (aO #[iV (x).1, iV (x).2.1, iV (x).2.2.1, iV (x).2.2.2] 55) (fun b2 => pA b2) (some 3) (fun _ => by kernel_rfl) (fun b2 hb2 => ?_)
  refine run_new (aO #[iV 0, iV 0] 23) (fun b3 => pA b3) (some 4) (fun _ => by kernel_rfl) (fun b3 hb3 => ?_)
  cases hd1 : ((x).1 == 0) with
  | false =>
    have hp1 : ¬ (x).1 = 0 := by simpa using hd1
    cases hd2 : ((x).1 == 2) with
    | false =>
      have hp2 : ¬ (x).1 = 2 := by simpa using hd2
      refine run_auto [(8, .bool false), (23, .bool false)] 27 [false, false] [1, 0] [4] [0] (st' := ⟨[(4, pA b3)], [(b3, aO #[iV 0, iV 0] 23)]⟩) (acc := [(pA b3, pA b3), (.bool false, .bool false), (.bool ((x).1 == 2), .bool false), (.bool false, .bool false), (.bool ((x).1 == 0), .bool false), (pA b2, pA b2)]) (by kernel_rfl) (by kernel_rfl) ⟨rfl, rfl, (bo hd2), rfl, (bo hd1), rfl, trivial⟩ ?_
      refine run_end (fn := f126) rfl (Nat.le_refl _) (by kernel_rfl) [0] [.agg #[iV 0, iV 0]] (e := [(pA b3, pA b3)]) (by kernel_rfl) ⟨rfl, trivial⟩ (fun w1 k1 h1 => ?_)
      unfold takS
      rw [hd1, hd2]
      exact ⟨rfl, k1.keeps (fun _ h => h)⟩
    | true =>
      have hp2 : (x).1 = 2 := by simpa using hd2
      refine run_auto [(8, .bool false), (23, .bool true)] 26 [false, true] [1, 1, 0] [4] [0] (st' := ⟨[(4, pA b3)], [(b3, aO #[iV (x).2.2.1, iV (x).2.2.2] 23)]⟩) (acc := [(pA b3, pA b3), (pA b2, pA b2), (.bool true, .bool true), (.bool ((x).1 == 2), .bool true), (.bool false, .bool false), (.bool ((x).1 == 0), .bool false), (pA b2, pA b2)]) (by kernel_rfl) (by kernel_rfl) ⟨rfl, rfl, rfl, (bo hd2), rfl, (bo hd1), rfl, trivial⟩ ?_
      refine run_end (fn := f126) rfl (Nat.le_refl _) (by kernel_rfl) [0] [.agg #[iV (x).2.2.1, iV (x).2.2.2]] (e := [(pA b3, pA b3)]) (by kernel_rfl) ⟨rfl, trivial⟩ (fun w1 k1 h1 => ?_)
      unfold takS
      rw [hd1, hd2]
      exact ⟨rfl, k1.keeps (fun _ h => h)⟩
  | true =>
    have hp1 : (x).1 = 0 := by simpa using hd1
    have hm : 0 ≤ x.2.1 * p.ul ∧ x.2.1 * p.ul ≤ x.2.1 * p.uh ∧ x.2.1 * p.uh ≤ 60 := man_bd (u := (p.ul, p.uh)) hu hv (by omega)
    refine run_auto [(8, .bool true), (14, iV ((x).2.1 * p.ul)), (20, iV ((x).2.1 * p.uh))] 31 [true] [1, 1, 2, 1, 2, 0] [4] [0] (st' := ⟨[(4, pA b3)], [(b3, aO #[iV ((x).2.1 * p.ul), iV ((x).2.1 * p.uh)] 23)]⟩) (acc := [(pA b3, pA b3), (iV (IntKind.i64.wrap ((x).2.1 * p.uh)), iV ((x).2.1 * p.uh)), (pA b1, pA b1), (pA b2, pA b2), (iV (IntKind.i64.wrap ((x).2.1 * p.ul)), iV ((x).2.1 * p.ul)), (pA b1, pA b1), (pA b2, pA b2), (.bool true, .bool true), (.bool ((x).1 == 0), .bool true), (pA b2, pA b2)]) (by kernel_rfl) (by kernel_rfl) ⟨rfl, (wr (by omega) (by omega)), rfl, rfl, (wr (by omega) (by omega)), rfl, rfl, rfl, (bo hd1), rfl, trivial⟩ ?_
    refine run_end (fn := f126) rfl (Nat.le_refl _) (by kernel_rfl) [0] [.agg #[iV ((x).2.1 * p.ul), iV ((x).2.1 * p.uh)]] (e := [(pA b3, pA b3)]) (by kernel_rfl) ⟨rfl, trivial⟩ (fun w1 k1 h1 => ?_)
    unfold takS
    rw [hd1]
    exact ⟨rfl, k1.keeps (fun _ h => h)⟩

set_option maxRecDepth 100000 in
theorem next_any (p : Wb) (l : Sp) (x : Ev) (rd : Bool) (w : World) (hu : 0 ≤ p.ul ∧ p.ul ≤ p.uh ∧ p.uh ≤ 3) (hv : vEv x = true) (hl : bdS l 3000) : Calls Tryz.prog 106 #[.agg #[.int .i64 p.ll, .int .i64 p.lh, .int .i64 p.ul, .int .i64 p.uh, .slice p.ea p.es.length p.ec], .agg #[.int .i64 l.1, .int .i64 l.2], .agg #[.int .i64 (x).1, .int .i64 (x).2.1, .int .i64 (x).2.2.1, .int .i64 (x).2.2.2], .bool rd] w (Ret (.agg #[.int .i64 (nxE (p.ul, p.uh) x rd l).1, .int .i64 (nxE (p.ul, p.uh) x rd l).2]) w) := by
  have ht := tak_bd (u := (p.ul, p.uh)) hu hv
  unfold bdS at hl
  refine calls_run (fn := f106) (c := (f106.body).getD .skip) [.agg #[.int .i64 p.ll, .int .i64 p.lh, .int .i64 p.ul, .int .i64 p.uh, .slice p.ea p.es.length p.ec], .agg #[.int .i64 l.1, .int .i64 l.2], .agg #[.int .i64 (x).1, .int .i64 (x).2.1, .int .i64 (x).2.2.1, .int .i64 (x).2.2.2], .bool rd] func106 (by kernel_rfl) (fun _ => False) [] (fun _ h => by cases h) (List.Pairwise.nil) 45 (by kernel_rfl) (by simp) ?_
  refine run_auto [] 2 [] [] [0, 1, 2, 3] [] (st' := ⟨[(0, .agg #[iV p.ll, iV p.lh, iV p.ul, iV p.uh, .slice p.ea p.es.length p.ec]), (1, .agg #[iV l.1, iV l.2]), (2, .agg #[iV (x).1, iV (x).2.1, iV (x).2.2.1, iV (x).2.2.2]), (3, .bool rd)], []⟩) (acc := []) (by kernel_rfl) (by kernel_rfl) trivial ?_
  refine run_new (aO #[iV p.ll, iV p.lh, iV p.ul, iV p.uh, .slice p.ea p.es.length p.ec] 26) (fun b1 => pA b1) (some 4) (fun _ => by kernel_rfl) (fun b1 hb1 => ?_)
  refine run_new (aO #[iV l.1, iV l.2] 23) (fun b2 => pA b2) (some 5) (fun _ => by kernel_rfl) (fun b2 hb2 => ?_)
  refine run_new (aO #[iV (x).1, iV (x).2.1, iV (x).2.2.1, iV (x).2.2.2] 55) (fun b3 => pA b3) (some 6) (fun _ => by kernel_rfl) (fun b3 hb3 => ?_)
  refine run_new (aO #[iV 0, iV 0] 23) (fun b4 => pA b4) (some 8) (fun _ => by kernel_rfl) (fun b4 hb4 => ?_)
  refine run_auto [] 5 [] [3, 1] [3, 5, 6, 8, 11, 12] [0, 1, 2] (st' := ⟨[(3, .bool rd), (5, pA b2), (6, pA b3), (8, pA b4), (11, .agg #[iV p.ll, iV p.lh, iV p.ul, iV p.uh, .slice p.ea p.es.length p.ec]), (12, .agg #[iV (x).1, iV (x).2.1, iV (x).2.2.1, iV (x).2.2.2])], [(b4, aO #[iV 0, iV 0] 23), (b3, aO #[iV (x).1, iV (x).2.1, iV (x).2.2.1, iV (x).2.2.2] 55), (b2, aO #[iV l.1, iV l.2] 23)]⟩) (acc := [(pA b3, pA b3), (pA b1, pA b1)]) (by kernel_rfl) (by kernel_rfl) ⟨rfl, rfl, trivial⟩ ?_
  refine run_ret1 126 #[.agg #[iV p.ll, iV p.lh, iV p.ul, iV p.uh, .slice p.ea p.es.length p.ec], .agg #[iV (x).1, iV (x).2.1, iV (x).2.2.1, iV (x).2.2.2]] (some 13) (.agg #[iV ((takS (p.ul, p.uh) x).1), iV ((takS (p.ul, p.uh) x).2)]) (by kernel_rfl) (fun w1 k1 h1 => takes_any p x w1 hu hv) ?_
  refine run_new (aO #[iV 0, iV 0] 23) (fun b5 => pA b5) (some 9) (fun _ => by kernel_rfl) (fun b5 hb5 => ?_)
  refine run_auto [(18, iV (l.1 - ((takS (p.ul, p.uh) x).2))), (23, iV (l.2 - ((takS (p.ul, p.uh) x).1)))] 15 [] [0, 3, 0, 3, 0] [3, 6, 8, 24] [1, 2] (st' := ⟨[(3, .bool rd), (6, pA b3), (8, pA b4), (24, .agg #[iV (l.1 - ((takS (p.ul, p.uh) x).2)), iV (l.2 - ((takS (p.ul, p.uh) x).1))])], [(b4, aO #[iV 0, iV 0] 23), (b3, aO #[iV (x).1, iV (x).2.1, iV (x).2.2.1, iV (x).2.2.2] 55)]⟩) (acc := [(iV (IntKind.i64.wrap (l.2 - ((takS (p.ul, p.uh) x).1))), iV (l.2 - ((takS (p.ul, p.uh) x).1))), (pA b5, pA b5), (pA b2, pA b2), (iV (IntKind.i64.wrap (l.1 - ((takS (p.ul, p.uh) x).2))), iV (l.1 - ((takS (p.ul, p.uh) x).2))), (pA b5, pA b5), (pA b2, pA b2), (pA b5, pA b5)]) (by kernel_rfl) (by kernel_rfl) ⟨(wr (by omega) (by omega)), rfl, rfl, (wr (by omega) (by omega)), rfl, rfl, rfl, trivial⟩ ?_
  refine run_new (aO #[iV 0, iV 0] 23) (fun b6 => pA b6) (some 10) (fun _ => by kernel_rfl) (fun b6 hb6 => ?_)
  cases hd1 : ((x).1 == 1) with
  | false =>
    have hp1 : ¬ (x).1 = 1 := by simpa using hd1
    refine run_auto [(27, .bool false)] 19 [false] [0, 2, 0, 1] [8] [1] (st' := ⟨[(8, pA b4)], [(b4, aO #[iV (l.1 - ((takS (p.ul, p.uh) x).2)), iV (l.2 - ((takS (p.ul, p.uh) x).1))] 23)]⟩) (acc := [(pA b4, pA b4), (pA b6, pA b6), (.bool false, .bool false), (.bool ((x).1 == 1), .bool false), (pA b3, pA b3), (pA b6, pA b6)]) (by kernel_rfl) (by kernel_rfl) ⟨rfl, rfl, rfl, (bo hd1), rfl, rfl, trivial⟩ ?_
    refine run_end (fn := f106) rfl (Nat.le_refl _) (by kernel_rfl) [0] [.agg #[iV (l.1 - ((takS (p.ul, p.uh) x).2)), iV (l.2 - ((takS (p.ul, p.uh) x).1))]] (e := [(pA b4, pA b4)]) (by kernel_rfl) ⟨rfl, trivial⟩ (fun w1 k1 h1 => ?_)
    unfold nxE
    rw [hd1]
    exact ⟨rfl, k1.keeps (fun _ h => h)⟩
  | true =>
    have hp1 : (x).1 = 1 := by simpa using hd1
    cases hd2 : rd with
    | false =>
      refine run_auto [(27, .bool true)] 19 [false] [0, 2, 0, 1] [8] [1] (st' := ⟨[(8, pA b4)], [(b4, aO #[iV (l.1 - ((takS (p.ul, p.uh) x).2)), iV (l.2 - ((takS (p.ul, p.uh) x).1))] 23)]⟩) (acc := [(pA b4, pA b4), (pA b6, pA b6), (.bool false, .bool false), (.bool ((x).1 == 1), .bool true), (pA b3, pA b3), (pA b6, pA b6)]) (by kernel_rfl) (by kernel_rfl) ⟨rfl, rfl, rfl, (bo hd1), rfl, rfl, trivial⟩ ?_
      refine run_end (fn := f106) rfl (Nat.le_refl _) (by kernel_rfl) [0] [.agg #[iV (l.1 - ((takS (p.ul, p.uh) x).2)), iV (l.2 - ((takS (p.ul, p.uh) x).1))]] (e := [(pA b4, pA b4)]) (by kernel_rfl) ⟨rfl, trivial⟩ (fun w1 k1 h1 => ?_)
      unfold nxE
      rw [hd1]
      exact ⟨rfl, k1.keeps (fun _ h => h)⟩
    | true =>
      refine run_auto [(27, .bool true), (36, iV (max (l.1 - ((takS (p.ul, p.uh) x).2)) (x).2.2.1)), (42, iV (min (l.2 - ((takS (p.ul, p.uh) x).1)) (x).2.2.2))] 34 [true] [0, 2, 0, 2, 0, 2, 0, 0, 1] [8] [1] (st' := ⟨[(8, pA b4)], [(b4, aO #[iV (max (l.1 - ((takS (p.ul, p.uh) x).2)) (x).2.2.1), iV (min (l.2 - ((takS (p.ul, p.uh) x).1)) (x).2.2.2)] 23)]⟩) (acc := [(pA b4, pA b4), (pA b6, pA b6), (pA b6, pA b6), (iV (if (x).2.2.2 < (l.2 - ((takS (p.ul, p.uh) x).1)) then (x).2.2.2 else (l.2 - ((takS (p.ul, p.uh) x).1))), iV (min (l.2 - ((takS (p.ul, p.uh) x).1)) (x).2.2.2)), (pA b3, pA b3), (pA b6, pA b6), (iV (if (x).2.2.1 > (l.1 - ((takS (p.ul, p.uh) x).2)) then (x).2.2.1 else (l.1 - ((takS (p.ul, p.uh) x).2))), iV (max (l.1 - ((takS (p.ul, p.uh) x).2)) (x).2.2.1)), (pA b3, pA b3), (pA b6, pA b6), (.bool true, .bool true), (.bool ((x).1 == 1), .bool true), (pA b3, pA b3), (pA b6, pA b6)]) (by kernel_rfl) (by kernel_rfl) ⟨rfl, rfl, rfl, (mn _ _ _), rfl, rfl, (mx _ _ _), rfl, rfl, rfl, (bo hd1), rfl, rfl, trivial⟩ ?_
      refine run_end (fn := f106) rfl (Nat.le_refl _) (by kernel_rfl) [0] [.agg #[iV (max (l.1 - ((takS (p.ul, p.uh) x).2)) (x).2.2.1), iV (min (l.2 - ((takS (p.ul, p.uh) x).1)) (x).2.2.2)]] (e := [(pA b4, pA b4)]) (by kernel_rfl) ⟨rfl, trivial⟩ (fun w1 k1 h1 => ?_)
      unfold nxE
      rw [hd1]
      exact ⟨rfl, k1.keeps (fun _ h => h)⟩

set_option maxRecDepth 100000 in
theorem run_any (p : Wb) (l0 R : Sp) (f t s : Nat) (w : World) (hp : p.In w) (hF : p.n.Fine) (hs : s < 256) (hf : f ≤ p.es.length) (ht : t ≤ p.es.length) (hl : bdS l0 2000) (hR : rnF (p.ul, p.uh) p.es s (t - f) f l0 = R) : Calls Tryz.prog 51 #[.agg #[.int .i64 p.ll, .int .i64 p.lh, .int .i64 p.ul, .int .i64 p.uh, .slice p.ea p.es.length p.ec], .agg #[.int .i64 l0.1, .int .i64 l0.2], .int .i64 (f : Int), .int .i64 (t : Int), .int .i64 (s : Int)] w (Ret (.agg #[.int .i64 (R).1, .int .i64 (R).2]) w) := by
  have hn8 : p.es.length ≤ 8 := hF.n8
  have hu : 0 ≤ p.ul ∧ p.ul ≤ p.uh ∧ p.uh ≤ 3 := hF.u
  refine calls_run (fn := f51) (c := (f51.body).getD .skip) [.agg #[.int .i64 p.ll, .int .i64 p.lh, .int .i64 p.ul, .int .i64 p.uh, .slice p.ea p.es.length p.ec], .agg #[.int .i64 l0.1, .int .i64 l0.2], .int .i64 (f : Int), .int .i64 (t : Int), .int .i64 (s : Int)] func51 (by kernel_rfl) (fun _ => False) [] (fun _ h => by cases h) (List.Pairwise.nil) 37 (by kernel_rfl) (by simp) ?_
  refine run_auto [] 2 [] [] [0, 1, 2, 3, 4] [] (st' := ⟨[(0, .agg #[iV p.ll, iV p.lh, iV p.ul, iV p.uh, .slice p.ea p.es.length p.ec]), (1, .agg #[iV l0.1, iV l0.2]), (2, iV (f : Int)), (3, iV (t : Int)), (4, iV (s : Int))], []⟩) (acc := []) (by kernel_rfl) (by kernel_rfl) trivial ?_
  refine run_new (aO #[iV p.ll, iV p.lh, iV p.ul, iV p.uh, .slice p.ea p.es.length p.ec] 26) (fun b1 => pA b1) (some 5) (fun _ => by kernel_rfl) (fun b1 hb1 => ?_)
  refine run_new (aO #[iV l0.1, iV l0.2] 23) (fun b2 => pA b2) (some 6) (fun _ => by kernel_rfl) (fun b2 hb2 => ?_)
  refine run_new (aO #[iV 0, iV 0] 23) (fun b3 => pA b3) (some 10) (fun _ => by kernel_rfl) (fun b3 hb3 => ?_)
  refine run_auto [] 8 [] [] [3, 4, 5, 6, 10, 11] [0, 1, 2] (st' := ⟨[(3, iV (t : Int)), (4, iV (s : Int)), (5, pA b1), (6, pA b2), (10, pA b3), (11, iV (f : Int))], [(b3, aO #[iV 0, iV 0] 23), (b2, aO #[iV l0.1, iV l0.2] 23), (b1, aO #[iV p.ll, iV p.lh, iV p.ul, iV p.uh, .slice p.ea p.es.length p.ec] 26)]⟩) (acc := []) (by kernel_rfl) (by kernel_rfl) trivial ?_
  refine run_auto [] 0 [] [] [3, 4, 5, 6, 10, 11] [0, 1, 2] (st' := ⟨[(3, iV (t : Int)), (4, iV (s : Int)), (5, pA b1), (6, pA b2), (10, pA b3), (11, iV (f : Int))], [(b3, aO #[iV 0, iV 0] 23), (b2, aO #[iV l0.1, iV l0.2] 23), (b1, aO #[iV p.ll, iV p.lh, iV p.ul, iV p.uh, .slice p.ea p.es.length p.ec] 26)]⟩) (acc := []) (by kernel_rfl) (by kernel_rfl) trivial ?_
  refine run_loop (S := fun (v : Nat × Sp) => ⟨[(3, iV (t : Int)), (4, iV (s : Int)), (5, pA b1), (6, pA b2), (10, pA b3), (11, iV (v.1 : Int))], [(b3, aO #[iV 0, iV 0] 23), (b2, aO #[iV v.2.1, iV v.2.2] 23), (b1, aO #[iV p.ll, iV p.lh, iV p.ul, iV p.uh, .slice p.ea p.es.length p.ec] 26)]⟩) (fun v => f ≤ v.1 ∧ v.1 ≤ max f t ∧ rnF (p.ul, p.uh) p.es s (t - v.1) v.1 v.2 = R ∧ bdS v.2 (2000 + 60 * (v.1 : Int))) (fun v => t - v.1) ((f, l0)) (by kernel_rfl) (⟨Nat.le_refl _, by dsimp only; omega, hR, by unfold bdS at hl ⊢; dsimp only; omega⟩) (by simp) (fun v hI0 J0 hJ0 => ?_)
  obtain ⟨i, lz⟩ := v
  obtain ⟨hf1, hf2, hR2, hbl⟩ := hI0
  dsimp only at hf1 hf2 hR2 hbl
  have hl : bdS lz 3000 := by unfold bdS at hbl ⊢; omega
  cases hd1 : (decide ((i : Int) < (t : Int))) with
  | false =>
    have hp1 := of_decide_eq_false hd1
    refine run_auto [(15, .bool false)] 21 [false] [1, 0] [10] [0] (st' := ⟨[(10, pA b3)], [(b3, aO #[iV lz.1, iV lz.2] 23)]⟩) (acc := [(pA b3, pA b3), (pA b2, pA b2), (.bool false, .bool false), (.bool (decide ((i : Int) < (t : Int))), .bool false)]) (by kernel_rfl) (by kernel_rfl) ⟨rfl, rfl, rfl, (bo hd1), trivial⟩ ?_
    refine run_end (fn := f51) rfl (Nat.le_refl _) (by kernel_rfl) [0] [.agg #[iV lz.1, iV lz.2]] (e := [(pA b3, pA b3)]) (by kernel_rfl) ⟨rfl, trivial⟩ (fun w1 k1 h1 => ?_)
    have hRl : lz = R := by rw [← hR2, show t - i = 0 by omega]; rfl
    rw [← hRl]
    exact ⟨rfl, k1.keeps (fun _ h => h)⟩
  | true =>
    have hp1 := of_decide_eq_true hd1
    have hit : i < t := by omega
    have hil : i < p.es.length := by omega
    have hlt : i < p.es.length := by omega
    obtain ⟨be, oe, hbe, hc⟩ := hp.ev (by intro h; rw [h] at hlt; cases hlt)
    have hc := hc i hlt
    have hv := hF.ev _ (elE_mem hil)
    cases hd2 : (decide (lz.1 ≤ lz.2)) with
    | false =>
      have hp2 := of_decide_eq_false hd2
      refine run_auto [(15, .bool true), (21, .bool false)] 21 [false] [1, 1, 1, 0] [10] [0] (st' := ⟨[(10, pA b3)], [(b3, aO #[iV lz.1, iV lz.2] 23)]⟩) (acc := [(pA b3, pA b3), (pA b2, pA b2), (.bool false, .bool false), (.bool (decide (lz.1 ≤ lz.2)), .bool false), (pA b2, pA b2), (pA b2, pA b2), (.bool (decide ((i : Int) < (t : Int))), .bool true)]) (by kernel_rfl) (by kernel_rfl) ⟨rfl, rfl, rfl, (bo hd2), rfl, rfl, (bo hd1), trivial⟩ ?_
      refine run_end (fn := f51) rfl (Nat.le_refl _) (by kernel_rfl) [0] [.agg #[iV lz.1, iV lz.2]] (e := [(pA b3, pA b3)]) (by kernel_rfl) ⟨rfl, trivial⟩ (fun w1 k1 h1 => ?_)
      have hRl : lz = R := by rw [← hR2]; exact (rnF_not _ _ _ hd2 _ _).symm
      rw [← hRl]
      exact ⟨rfl, k1.keeps (fun _ h => h)⟩
    | true =>
      have hp2 := of_decide_eq_true hd2
      refine run_auto [(15, .bool true), (21, .bool true)] 18 [true] [1, 1] [3, 4, 5, 6, 10, 11] [0, 1, 2] (st' := ⟨[(3, iV (t : Int)), (4, iV (s : Int)), (5, pA b1), (6, pA b2), (10, pA b3), (11, iV (i : Int))], [(b3, aO #[iV 0, iV 0] 23), (b2, aO #[iV lz.1, iV lz.2] 23), (b1, aO #[iV p.ll, iV p.lh, iV p.ul, iV p.uh, .slice p.ea p.es.length p.ec] 26)]⟩) (acc := [(.bool true, .bool true), (.bool (decide (lz.1 ≤ lz.2)), .bool true), (pA b2, pA b2), (pA b2, pA b2), (.bool (decide ((i : Int) < (t : Int))), .bool true)]) (by kernel_rfl) (by kernel_rfl) ⟨rfl, (bo hd2), rfl, rfl, (bo hd1), trivial⟩ ?_
      cases hd3 : (s.testBit i) with
      | false =>
        refine drawW 12 [{ val := fun _ => .agg #[iV p.ll, iV p.lh, iV p.ul, iV p.uh, .slice p.ea p.es.length p.ec], slots := [5], reads := [2] },
                  { val := fun _ => .agg #[iV lz.1, iV lz.2], slots := [6], reads := [1] },
                  { val := fun _ => .pointer (some ⟨b1, 4, none⟩), slots := [5] },
                  { val := fun _ => .slice p.ea p.es.length p.ec, slots := [27], reads := [2] },
                  { val := fun _ => iV (i : Int), slots := [11] },
                  { val := fun _ => .pointer (some ⟨be, oe + i * 4, none⟩), slots := [28, 29] },
                  { val := fun _ => .agg #[iV (elE p.es i).1, iV (elE p.es i).2.1, iV (elE p.es i).2.2.1, iV (elE p.es i).2.2.2], slots := [30] },
                  { val := fun _ => iV (s : Int), slots := [4] },
                  { val := fun _ => iV (i : Int), slots := [11] },
                  { val := fun _ => .bool false, slots := [32, 33] },
                  { val := fun _ => .agg #[iV ((nxE (p.ul, p.uh) ((elE p.es i).1, (elE p.es i).2.1, (elE p.es i).2.2.1, (elE p.es i).2.2.2) false lz).1), iV ((nxE (p.ul, p.uh) ((elE p.es i).1, (elE p.es i).2.1, (elE p.es i).2.2.1, (elE p.es i).2.2.2) false lz).2)], slots := [25, 26, 31, 34] },
                  { upd := [(1, fun l => aO #[iV ((nxE (p.ul, p.uh) ((elE p.es i).1, (elE p.es i).2.1, (elE p.es i).2.2.1, (elE p.es i).2.2.2) false lz).1), iV ((nxE (p.ul, p.uh) ((elE p.es i).1, (elE p.es i).2.1, (elE p.es i).2.2.1, (elE p.es i).2.2.2) false lz).2)] 23)], slots := [6, 35], reads := [1] }] [[], [], [], [2], [], [2, 3, 4], [2, 3, 4, 5], [], [], [7, 8], [0, 1, 2, 3, 4, 5, 6, 7, 8, 9], [0, 1, 2, 3, 4, 5, 6, 7, 8, 9, 10]] (by kernel_rfl) (by kernel_rfl) (by kernel_rfl) (by kernel_rfl) [3, 4, 5, 6, 10, 11] [0, 1, 2] (by kernel_rfl)
                  ⟨⟨⟨⟨⟨⟨⟨⟨⟨⟨⟨⟨trivial,
                  tri_quietW (fun β => []) [0] [0] (fun β => [(pA b1, pA b1)]) (by kernel_rfl) (fun β extra => by kernel_rfl) (by kernel_rfl) (fun β => ⟨rfl, trivial⟩)⟩,
                  tri_quietW (fun β => []) [0] [0] (fun β => [(pA b2, pA b2)]) (by kernel_rfl) (fun β extra => by kernel_rfl) (by kernel_rfl) (fun β => ⟨rfl, trivial⟩)⟩,
                  tri_quietW (fun β => []) [] [] (fun β => []) (by kernel_rfl) (fun β extra => by kernel_rfl) (by kernel_rfl) (fun β => trivial)⟩,
                  tri_quietW (fun β => []) [0] [0] (fun β => [(pA b1, pA b1)]) (by kernel_rfl) (fun β extra => by kernel_rfl) (by kernel_rfl) (fun β => ⟨rfl, trivial⟩)⟩,
                  tri_quietW (fun β => []) [] [] (fun β => []) (by kernel_rfl) (fun β extra => by kernel_rfl) (by kernel_rfl) (fun β => trivial)⟩,
                  tri_vVW (fun β => .pointer (some ⟨be, oe + i * 4, none⟩)) (fun β => by kernel_rfl) (fun β => (Instr.indexAt 24 (.slice p.ea p.es.length p.ec) (iV (i : Int)) >>= fun v => pure (Next.value v))) (by kernel_rfl) (fun β extra => by kernel_rfl) (fun β => by kernel_rfl) (fun β w1 k1 h1 => (by rw [hbe]; exact idx_off (e := 55) (n := 4) (by kernel_rfl) (by kernel_rfl) be oe p.es.length p.ec .i64 i hlt (oe + i * 4) (by omega) w1))⟩,
                  tri_vVW (fun β => .agg #[iV (elE p.es i).1, iV (elE p.es i).2.1, iV (elE p.es i).2.2.1, iV (elE p.es i).2.2.2]) (fun β => by kernel_rfl) (fun β => (Instr.loadAt 55 (.pointer (some ⟨be, oe + i * 4, none⟩)) >>= fun v => pure (Next.value v))) (by kernel_rfl) (fun β extra => by kernel_rfl) (fun β => by kernel_rfl) (fun β w1 k1 h1 => load_in (off := 0) k1 (fun h => h) [iV (elE p.es i).1, iV (elE p.es i).2.1, iV (elE p.es i).2.2.1, iV (elE p.es i).2.2.2] (c4 hc.1 hc.2.1 hc.2.2.1 hc.2.2.2) (by kernel_rfl))⟩,
                  tri_quietW (fun β => []) [] [] (fun β => []) (by kernel_rfl) (fun β extra => by kernel_rfl) (by kernel_rfl) (fun β => trivial)⟩,
                  tri_quietW (fun β => []) [] [] (fun β => []) (by kernel_rfl) (fun β extra => by kernel_rfl) (by kernel_rfl) (fun β => trivial)⟩,
                  tri_callVW (fun β => .bool false) (fun β => by kernel_rfl) 87 (fun β => #[iV (s : Int), iV (i : Int)]) (by kernel_rfl) (fun β extra => by kernel_rfl) (fun β => by kernel_rfl) (fun β w1 k1 h1 => (by have h := rhas_any s i (by omega) (by omega) w1; rw [hd3] at h; exact h))⟩,
                  tri_callVW (fun β => .agg #[iV ((nxE (p.ul, p.uh) ((elE p.es i).1, (elE p.es i).2.1, (elE p.es i).2.2.1, (elE p.es i).2.2.2) false lz).1), iV ((nxE (p.ul, p.uh) ((elE p.es i).1, (elE p.es i).2.1, (elE p.es i).2.2.1, (elE p.es i).2.2.2) false lz).2)]) (fun β => by kernel_rfl) 106 (fun β => #[.agg #[iV p.ll, iV p.lh, iV p.ul, iV p.uh, .slice p.ea p.es.length p.ec], .agg #[iV lz.1, iV lz.2], .agg #[iV (elE p.es i).1, iV (elE p.es i).2.1, iV (elE p.es i).2.2.1, iV (elE p.es i).2.2.2], .bool false]) (by kernel_rfl) (fun β extra => by kernel_rfl) (fun β => by kernel_rfl) (fun β w1 k1 h1 => next_any p lz ((elE p.es i).1, (elE p.es i).2.1, (elE p.es i).2.2.1, (elE p.es i).2.2.2) false w1 hu hv hl)⟩,
                  tri_quietW (fun β => []) [0] [0] (fun β => [(pA b2, pA b2)]) (by kernel_rfl) (fun β extra => by kernel_rfl) (by kernel_rfl) (fun β => ⟨rfl, trivial⟩)⟩
                  (fun β => ⟨[(3, iV (t : Int)), (4, iV (s : Int)), (5, pA b1), (6, pA b2), (10, pA b3), (11, iV (i : Int))], [(b3, aO #[iV 0, iV 0] 23), (b2, aO #[iV ((nxE (p.ul, p.uh) ((elE p.es i).1, (elE p.es i).2.1, (elE p.es i).2.2.1, (elE p.es i).2.2.2) false lz).1), iV ((nxE (p.ul, p.uh) ((elE p.es i).1, (elE p.es i).2.1, (elE p.es i).2.2.1, (elE p.es i).2.2.2) false lz).2)] 23), (b1, aO #[iV p.ll, iV p.lh, iV p.ul, iV p.uh, .slice p.ea p.es.length p.ec] 26)]⟩) (fun β => by kernel_rfl) (fun β4 => ?_)
        refine run_auto [(24, iV ((i + 1 : Nat) : Int))] 6 [] [] [3, 4, 5, 6, 10, 11] [0, 1, 2] (st' := ⟨[(3, iV (t : Int)), (4, iV (s : Int)), (5, pA b1), (6, pA b2), (10, pA b3), (11, iV ((i + 1 : Nat) : Int))], [(b3, aO #[iV 0, iV 0] 23), (b2, aO #[iV ((nxE (p.ul, p.uh) ((elE p.es i).1, (elE p.es i).2.1, (elE p.es i).2.2.1, (elE p.es i).2.2.2) false lz).1), iV ((nxE (p.ul, p.uh) ((elE p.es i).1, (elE p.es i).2.1, (elE p.es i).2.2.1, (elE p.es i).2.2.2) false lz).2)] 23), (b1, aO #[iV p.ll, iV p.lh, iV p.ul, iV p.uh, .slice p.ea p.es.length p.ec] 26)]⟩) (acc := [(iV (IntKind.i64.wrap ((i : Int) + 1)), iV ((i + 1 : Nat) : Int))]) (by kernel_rfl) (by kernel_rfl) ⟨(wr (by omega) (by omega)), trivial⟩ ?_
        exact run_round (by kernel_rfl) (hJ0 (i + 1, nxE (p.ul, p.uh) (elE p.es i) false lz) ⟨by dsimp only; omega, by dsimp only; omega, by dsimp only; rw [← hR2, show t - i = (t - (i + 1)) + 1 from by omega]; rw [rnF_step, show possS lz = true from hd2, hd3]; rfl, by dsimp only; have h := nx_bd (u := (p.ul, p.uh)) hu hv false (by omega) hbl; rw [show (2000 : Int) + 60 * ((i + 1 : Nat) : Int) = 2000 + 60 * (i : Int) + 60 from by omega]; exact h⟩ (by dsimp only; omega))
      | true =>
        refine drawW 12 [{ val := fun _ => .agg #[iV p.ll, iV p.lh, iV p.ul, iV p.uh, .slice p.ea p.es.length p.ec], slots := [5], reads := [2] },
                  { val := fun _ => .agg #[iV lz.1, iV lz.2], slots := [6], reads := [1] },
                  { val := fun _ => .pointer (some ⟨b1, 4, none⟩), slots := [5] },
                  { val := fun _ => .slice p.ea p.es.length p.ec, slots := [27], reads := [2] },
                  { val := fun _ => iV (i : Int), slots := [11] },
                  { val := fun _ => .pointer (some ⟨be, oe + i * 4, none⟩), slots := [28, 29] },
                  { val := fun _ => .agg #[iV (elE p.es i).1, iV (elE p.es i).2.1, iV (elE p.es i).2.2.1, iV (elE p.es i).2.2.2], slots := [30] },
                  { val := fun _ => iV (s : Int), slots := [4] },
                  { val := fun _ => iV (i : Int), slots := [11] },
                  { val := fun _ => .bool true, slots := [32, 33] },
                  { val := fun _ => .agg #[iV ((nxE (p.ul, p.uh) ((elE p.es i).1, (elE p.es i).2.1, (elE p.es i).2.2.1, (elE p.es i).2.2.2) true lz).1), iV ((nxE (p.ul, p.uh) ((elE p.es i).1, (elE p.es i).2.1, (elE p.es i).2.2.1, (elE p.es i).2.2.2) true lz).2)], slots := [25, 26, 31, 34] },
                  { upd := [(1, fun l => aO #[iV ((nxE (p.ul, p.uh) ((elE p.es i).1, (elE p.es i).2.1, (elE p.es i).2.2.1, (elE p.es i).2.2.2) true lz).1), iV ((nxE (p.ul, p.uh) ((elE p.es i).1, (elE p.es i).2.1, (elE p.es i).2.2.1, (elE p.es i).2.2.2) true lz).2)] 23)], slots := [6, 35], reads := [1] }] [[], [], [], [2], [], [2, 3, 4], [2, 3, 4, 5], [], [], [7, 8], [0, 1, 2, 3, 4, 5, 6, 7, 8, 9], [0, 1, 2, 3, 4, 5, 6, 7, 8, 9, 10]] (by kernel_rfl) (by kernel_rfl) (by kernel_rfl) (by kernel_rfl) [3, 4, 5, 6, 10, 11] [0, 1, 2] (by kernel_rfl)
                  ⟨⟨⟨⟨⟨⟨⟨⟨⟨⟨⟨⟨trivial,
                  tri_quietW (fun β => []) [0] [0] (fun β => [(pA b1, pA b1)]) (by kernel_rfl) (fun β extra => by kernel_rfl) (by kernel_rfl) (fun β => ⟨rfl, trivial⟩)⟩,
                  tri_quietW (fun β => []) [0] [0] (fun β => [(pA b2, pA b2)]) (by kernel_rfl) (fun β extra => by kernel_rfl) (by kernel_rfl) (fun β => ⟨rfl, trivial⟩)⟩,
                  tri_quietW (fun β => []) [] [] (fun β => []) (by kernel_rfl) (fun β extra => by kernel_rfl) (by kernel_rfl) (fun β => trivial)⟩,
                  tri_quietW (fun β => []) [0] [0] (fun β => [(pA b1, pA b1)]) (by kernel_rfl) (fun β extra => by kernel_rfl) (by kernel_rfl) (fun β => ⟨rfl, trivial⟩)⟩,
                  tri_quietW (fun β => []) [] [] (fun β => []) (by kernel_rfl) (fun β extra => by kernel_rfl) (by kernel_rfl) (fun β => trivial)⟩,
                  tri_vVW (fun β => .pointer (some ⟨be, oe + i * 4, none⟩)) (fun β => by kernel_rfl) (fun β => (Instr.indexAt 24 (.slice p.ea p.es.length p.ec) (iV (i : Int)) >>= fun v => pure (Next.value v))) (by kernel_rfl) (fun β extra => by kernel_rfl) (fun β => by kernel_rfl) (fun β w1 k1 h1 => (by rw [hbe]; exact idx_off (e := 55) (n := 4) (by kernel_rfl) (by kernel_rfl) be oe p.es.length p.ec .i64 i hlt (oe + i * 4) (by omega) w1))⟩,
                  tri_vVW (fun β => .agg #[iV (elE p.es i).1, iV (elE p.es i).2.1, iV (elE p.es i).2.2.1, iV (elE p.es i).2.2.2]) (fun β => by kernel_rfl) (fun β => (Instr.loadAt 55 (.pointer (some ⟨be, oe + i * 4, none⟩)) >>= fun v => pure (Next.value v))) (by kernel_rfl) (fun β extra => by kernel_rfl) (fun β => by kernel_rfl) (fun β w1 k1 h1 => load_in (off := 0) k1 (fun h => h) [iV (elE p.es i).1, iV (elE p.es i).2.1, iV (elE p.es i).2.2.1, iV (elE p.es i).2.2.2] (c4 hc.1 hc.2.1 hc.2.2.1 hc.2.2.2) (by kernel_rfl))⟩,
                  tri_quietW (fun β => []) [] [] (fun β => []) (by kernel_rfl) (fun β extra => by kernel_rfl) (by kernel_rfl) (fun β => trivial)⟩,
                  tri_quietW (fun β => []) [] [] (fun β => []) (by kernel_rfl) (fun β extra => by kernel_rfl) (by kernel_rfl) (fun β => trivial)⟩,
                  tri_callVW (fun β => .bool true) (fun β => by kernel_rfl) 87 (fun β => #[iV (s : Int), iV (i : Int)]) (by kernel_rfl) (fun β extra => by kernel_rfl) (fun β => by kernel_rfl) (fun β w1 k1 h1 => (by have h := rhas_any s i (by omega) (by omega) w1; rw [hd3] at h; exact h))⟩,
                  tri_callVW (fun β => .agg #[iV ((nxE (p.ul, p.uh) ((elE p.es i).1, (elE p.es i).2.1, (elE p.es i).2.2.1, (elE p.es i).2.2.2) true lz).1), iV ((nxE (p.ul, p.uh) ((elE p.es i).1, (elE p.es i).2.1, (elE p.es i).2.2.1, (elE p.es i).2.2.2) true lz).2)]) (fun β => by kernel_rfl) 106 (fun β => #[.agg #[iV p.ll, iV p.lh, iV p.ul, iV p.uh, .slice p.ea p.es.length p.ec], .agg #[iV lz.1, iV lz.2], .agg #[iV (elE p.es i).1, iV (elE p.es i).2.1, iV (elE p.es i).2.2.1, iV (elE p.es i).2.2.2], .bool true]) (by kernel_rfl) (fun β extra => by kernel_rfl) (fun β => by kernel_rfl) (fun β w1 k1 h1 => next_any p lz ((elE p.es i).1, (elE p.es i).2.1, (elE p.es i).2.2.1, (elE p.es i).2.2.2) true w1 hu hv hl)⟩,
                  tri_quietW (fun β => []) [0] [0] (fun β => [(pA b2, pA b2)]) (by kernel_rfl) (fun β extra => by kernel_rfl) (by kernel_rfl) (fun β => ⟨rfl, trivial⟩)⟩
                  (fun β => ⟨[(3, iV (t : Int)), (4, iV (s : Int)), (5, pA b1), (6, pA b2), (10, pA b3), (11, iV (i : Int))], [(b3, aO #[iV 0, iV 0] 23), (b2, aO #[iV ((nxE (p.ul, p.uh) ((elE p.es i).1, (elE p.es i).2.1, (elE p.es i).2.2.1, (elE p.es i).2.2.2) true lz).1), iV ((nxE (p.ul, p.uh) ((elE p.es i).1, (elE p.es i).2.1, (elE p.es i).2.2.1, (elE p.es i).2.2.2) true lz).2)] 23), (b1, aO #[iV p.ll, iV p.lh, iV p.ul, iV p.uh, .slice p.ea p.es.length p.ec] 26)]⟩) (fun β => by kernel_rfl) (fun β4 => ?_)
        refine run_auto [(24, iV ((i + 1 : Nat) : Int))] 6 [] [] [3, 4, 5, 6, 10, 11] [0, 1, 2] (st' := ⟨[(3, iV (t : Int)), (4, iV (s : Int)), (5, pA b1), (6, pA b2), (10, pA b3), (11, iV ((i + 1 : Nat) : Int))], [(b3, aO #[iV 0, iV 0] 23), (b2, aO #[iV ((nxE (p.ul, p.uh) ((elE p.es i).1, (elE p.es i).2.1, (elE p.es i).2.2.1, (elE p.es i).2.2.2) true lz).1), iV ((nxE (p.ul, p.uh) ((elE p.es i).1, (elE p.es i).2.1, (elE p.es i).2.2.1, (elE p.es i).2.2.2) true lz).2)] 23), (b1, aO #[iV p.ll, iV p.lh, iV p.ul, iV p.uh, .slice p.ea p.es.length p.ec] 26)]⟩) (acc := [(iV (IntKind.i64.wrap ((i : Int) + 1)), iV ((i + 1 : Nat) : Int))]) (by kernel_rfl) (by kernel_rfl) ⟨(wr (by omega) (by omega)), trivial⟩ ?_
        exact run_round (by kernel_rfl) (hJ0 (i + 1, nxE (p.ul, p.uh) (elE p.es i) true lz) ⟨by dsimp only; omega, by dsimp only; omega, by dsimp only; rw [← hR2, show t - i = (t - (i + 1)) + 1 from by omega]; rw [rnF_step, show possS lz = true from hd2, hd3]; rfl, by dsimp only; have h := nx_bd (u := (p.ul, p.uh)) hu hv true (by omega) hbl; rw [show (2000 : Int) + 60 * ((i + 1 : Nat) : Int) = 2000 + 60 * (i : Int) + 60 from by omega]; exact h⟩ (by dsimp only; omega))

end Go.Proofs.YtdjnkdelmmpleaaGreat

namespace Go.Proofs.YtdjnkdelmmpleaaGreat
open Go.RowKit Go.Proofs.Tryz


def Wb.all (p : Wb) : Nat := 2 ^ p.es.length - 1
def Wb.u (p : Wb) : Sp := (p.ul, p.uh)
theorem all_bit {n i : Nat} (h : i < n) : (2 ^ n - 1).testBit i = true := by rw [Nat.testBit_two_pow_sub_one]; exact decide_eq_true h
theorem all_lt {p : Wb} (hF : p.n.Fine) : p.all < 256 := by
  have h := pow_le8 (show p.es.length ≤ 8 from hF.n8)
  unfold Wb.all
  omega
theorem nx_is {u : Sp} {e : Ev} {l : Sp} (hv : vEv e = true) (hp : possS l = true) : nxE u e true l = fwdE u e l := by
  rcases kind_of hv with h | h | h <;> simp [nxE, fwdE, takS, movS, negS, h, hp, cutS, Int.sub_eq_add_neg]
theorem rn_in {p : Wb} (hF : p.n.Fine) {y : Int} : ∀ (n i : Nat) (l : Sp), i + n ≤ p.es.length → (inP y (rnF (p.ul, p.uh) p.es p.all n i l) ↔ ∃ x, inP x l ∧ Rch (p.ul, p.uh) ((p.es.drop i).take n) x y)
  | 0, i, l, _ => ⟨fun h => ⟨y, h, rfl⟩, fun ⟨x, h, e⟩ => by have e : x = y := e; exact e ▸ h⟩
  | n + 1, i, l, hn => by
    have hv : vEv (elE p.es i) = true := hF.ev _ (elE_mem (show i < p.es.length by omega))
    rw [rnF_step, show p.all.testBit i = true from all_bit (by omega), List.drop_eq_getElem_cons (show i < p.es.length by omega), List.take_succ_cons, ← elE_at (by omega)]
    cases hp : possS l with
    | false =>
      have hno : ∀ x, ¬ inP x l := fun x hx => by rw [poss_iff.2 ⟨x, hx⟩] at hp; cases hp
      exact ⟨fun h => absurd h (hno y), fun ⟨x, h, _⟩ => absurd h (hno x)⟩
    | true =>
      rw [cond_true, nx_is hv hp, rn_in hF n (i + 1) _ (by omega)]
      constructor
      · rintro ⟨z, hz, hr⟩
        obtain ⟨x, hx, hs⟩ := (fwd_in (evOk hF.u.2.1 hv)).1 hz
        exact ⟨x, hx, z, hs, hr⟩
      · rintro ⟨x, hx, z, hs, hr⟩
        exact ⟨z, (fwd_in (evOk hF.u.2.1 hv)).2 ⟨x, hx, hs⟩, hr⟩
theorem rn_bd {p : Wb} (hF : p.n.Fine) (s : Nat) : ∀ (n i : Nat) (l : Sp) (c : Int), 1000 ≤ c → i + n ≤ p.es.length → bdS l c → bdS (rnF (p.ul, p.uh) p.es s n i l) (c + 60 * (n : Int))
  | 0, _, l, c, _, _, h => by show bdS l _; unfold bdS at h ⊢; omega
  | n + 1, i, l, c, hc, hn, h => by
    rw [rnF_step]
    cases possS l with
    | false => show bdS l _; unfold bdS at h ⊢; omega
    | true =>
      have h2 := rn_bd hF s n (i + 1) _ (c + 60) (by omega) (by omega) (nx_bd (u := (p.ul, p.uh)) hF.u (hF.ev _ (elE_mem (show i < p.es.length by omega))) (s.testBit i) hc h)
      rw [cond_true]
      rw [show c + 60 * ((n + 1 : Nat) : Int) = c + 60 + 60 * (n : Int) by omega]
      exact h2
theorem can_rn {p : Wb} (hF : p.n.Fine) : possS (rnF (p.ul, p.uh) p.es p.all p.es.length 0 (p.ll, p.lh)) = p.n.can := by
  rw [Bool.eq_iff_iff, poss_iff, hF.ok_.can_iff]
  have h := fun y => rn_in hF (y := y) p.es.length 0 (p.ll, p.lh) (by omega)
  rw [List.drop_zero, List.take_length] at h
  constructor
  · rintro ⟨y, hy⟩
    obtain ⟨x, hx, hr⟩ := (h y).1 hy
    exact ⟨x, y, hx, hr⟩
  · rintro ⟨x, y, hx, hr⟩
    exact ⟨y, (h y).2 ⟨x, hx, hr⟩⟩
/-- The lengths after some first events, and what becomes of one of them. -/
theorem aft_at {p : Wb} (hF : p.n.Fine) {k : Nat} (hk : k ≤ p.es.length) (x : Int) : (inP x (rnF (p.ul, p.uh) p.es p.all k 0 (p.ll, p.lh)) ∧ possS (rnF (p.ul, p.uh) p.es p.all (p.es.length - k) k (x, x)) = true) ↔ inP x (mC p.n k) := by
  rw [mC_le p.n (show k ≤ p.n.es.length from hk), hF.ok_.B_in, rn_in hF k 0 _ (by omega), poss_iff, List.drop_zero]
  have h := fun y => rn_in hF (y := y) (p.es.length - k) k (x, x) (by omega)
  rw [show (p.es.drop k).take (p.es.length - k) = p.es.drop k from List.take_of_length_le (by rw [List.length_drop]; exact Nat.le_refl _)] at h
  unfold Wn.At
  refine and_congr Iff.rfl ⟨fun ⟨y, hy⟩ => ?_, fun ⟨z, hz⟩ => ⟨z, (h z).2 ⟨x, ⟨Int.le_refl _, Int.le_refl _⟩, hz⟩⟩⟩
  obtain ⟨x2, hx, hr⟩ := (h y).1 hy
  have e : x2 = x := Int.le_antisymm hx.2 hx.1
  exact ⟨y, e ▸ hr⟩
/-- What is found of C before n. -/
def aftS (C : Sp) (n : Int) : Sp := bif decide (n ≤ C.1) then (0, 0) else (C.1, min (n - 1) C.2)
theorem aft_le {C : Sp} {n : Int} (h : n ≤ C.1) : aftS C n = (0, 0) := by unfold aftS; rw [decide_eq_true h]; rfl
theorem aft_gt {C : Sp} {n : Int} (h : C.1 < n) : aftS C n = (C.1, min (n - 1) C.2) := by unfold aftS; rw [decide_eq_false (by omega)]; rfl
theorem aft_in {C : Sp} {n : Int} (h1 : C.1 ≤ n) (h2 : n ≤ C.2) : aftS C (n + 1) = (C.1, n) := by rw [aft_gt (by omega), Int.min_eq_left (by omega)]; congr 1; omega
theorem aft_out {C : Sp} {n : Int} (hC : C.1 ≤ C.2) (h : ¬ (C.1 ≤ n ∧ n ≤ C.2)) : aftS C (n + 1) = aftS C n ∧ decide (C.1 < n + 1) = decide (C.1 < n) := by
  refine ⟨?_, decide_eq_decide.2 (by omega)⟩
  by_cases h1 : n < C.1
  · rw [aft_le (by omega), aft_le (by omega)]
  · rw [aft_gt (by omega), aft_gt (by omega), Int.min_eq_right (by omega), Int.min_eq_right (by omega)]
theorem aft_all {C : Sp} {n : Int} (hC : C.1 ≤ C.2) (h : C.2 < n) : aftS C n = C := by rw [aft_gt (by omega), Int.min_eq_right (by omega)]
theorem mC_sub {p : Wb} (hF : p.n.Fine) (hcan : p.n.can = true) {k : Nat} (hk : k ≤ p.es.length) : (rnF (p.ul, p.uh) p.es p.all k 0 (p.ll, p.lh)).1 ≤ (mC p.n k).1 ∧ (mC p.n k).2 ≤ (rnF (p.ul, p.uh) p.es p.all k 0 (p.ll, p.lh)).2 := by
  have hC := mC_poss hF hcan hk
  exact ⟨((aft_at hF hk (mC p.n k).1).2 ⟨Int.le_refl _, hC⟩).1.1, ((aft_at hF hk (mC p.n k).2).2 ⟨hC, Int.le_refl _⟩).1.2⟩
set_option maxRecDepth 100000 in
theorem every_any (p : Wb) (w : World) (h8 : p.es.length ≤ 8) : Calls Tryz.prog 52 #[.agg #[.int .i64 p.ll, .int .i64 p.lh, .int .i64 p.ul, .int .i64 p.uh, .slice p.ea p.es.length p.ec]] w (RetI (p.all : Int) w) := by
  have hpw := pow_le8 h8
  refine calls_run (fn := f52) (c := (f52.body).getD .skip) [.agg #[.int .i64 p.ll, .int .i64 p.lh, .int .i64 p.ul, .int .i64 p.uh, .slice p.ea p.es.length p.ec]] func52 (by kernel_rfl) (fun _ => False) [] (fun _ h => by cases h) (List.Pairwise.nil) 8 (by kernel_rfl) (by simp) ?_
  refine run_auto [] 2 [] [] [0] [] (st' := ⟨[(0, .agg #[iV p.ll, iV p.lh, iV p.ul, iV p.uh, .slice p.ea p.es.length p.ec])], []⟩) (acc := []) (by kernel_rfl) (by kernel_rfl) trivial ?_
  refine run_new (aO #[iV p.ll, iV p.lh, iV p.ul, iV p.uh, .slice p.ea p.es.length p.ec] 26) (fun b1 => pA b1) (some 1) (fun _ => by kernel_rfl) (fun b1 hb1 => ?_)
  refine run_auto [] 7 [] [0] [2, 5] [] (st' := ⟨[(2, iV 0), (5, iV (p.es.length : Int))], []⟩) (acc := [(pA b1, pA b1)]) (by kernel_rfl) (by kernel_rfl) ⟨rfl, trivial⟩ ?_
  refine run_ret1 60 #[iV (p.es.length : Int)] (some 6) (iV ((2 ^ p.es.length : Nat) : Int)) (by kernel_rfl) (fun w1 k1 h1 => power_any p.es.length (by omega) w1) ?_
  refine run_auto [(7, iV (((2 ^ p.es.length : Nat) : Int) - 1))] 3 [] [] [2] [] (st' := ⟨[(2, iV (((2 ^ p.es.length : Nat) : Int) - 1))], []⟩) (acc := [(iV (IntKind.i64.wrap (((2 ^ p.es.length : Nat) : Int) - 1)), iV (((2 ^ p.es.length : Nat) : Int) - 1))]) (by kernel_rfl) (by kernel_rfl) ⟨(wr (by omega) (by omega)), trivial⟩ ?_
  refine run_end (fn := f52) rfl (Nat.le_refl _) (by kernel_rfl) [] [iV (((2 ^ p.es.length : Nat) : Int) - 1)] (e := []) (by kernel_rfl) trivial (fun w1 k1 h1 => ?_)
  exact ⟨by rw [show ((2 ^ p.es.length : Nat) : Int) - 1 = (p.all : Int) from by unfold Wb.all; omega]; rfl, k1.keeps (fun _ h => h)⟩

set_option maxRecDepth 100000 in
theorem can_any (p : Wb) (l0 R : Sp) (s : Nat) (w : World) (hp : p.In w) (hF : p.n.Fine) (hs : s < 256) (hl : bdS l0 2000) (hR : rnF (p.ul, p.uh) p.es s p.es.length 0 l0 = R) : Calls Tryz.prog 86 #[.agg #[.int .i64 p.ll, .int .i64 p.lh, .int .i64 p.ul, .int .i64 p.uh, .slice p.ea p.es.length p.ec], .agg #[.int .i64 l0.1, .int .i64 l0.2], .int .i64 (s : Int)] w (RetB (possS R) w) := by
  have hn8 : p.es.length ≤ 8 := hF.n8
  refine calls_run (fn := f86) (c := (f86.body).getD .skip) [.agg #[.int .i64 p.ll, .int .i64 p.lh, .int .i64 p.ul, .int .i64 p.uh, .slice p.ea p.es.length p.ec], .agg #[.int .i64 l0.1, .int .i64 l0.2], .int .i64 (s : Int)] func86 (by kernel_rfl) (fun _ => False) [] (fun _ h => by cases h) (List.Pairwise.nil) 20 (by kernel_rfl) (by simp) ?_
  refine run_auto [] 2 [] [] [0, 1, 2] [] (st' := ⟨[(0, .agg #[iV p.ll, iV p.lh, iV p.ul, iV p.uh, .slice p.ea p.es.length p.ec]), (1, .agg #[iV l0.1, iV l0.2]), (2, iV (s : Int))], []⟩) (acc := []) (by kernel_rfl) (by kernel_rfl) trivial ?_
  refine run_new (aO #[iV p.ll, iV p.lh, iV p.ul, iV p.uh, .slice p.ea p.es.length p.ec] 26) (fun b1 => pA b1) (some 3) (fun _ => by kernel_rfl) (fun b1 hb1 => ?_)
  refine run_new (aO #[iV l0.1, iV l0.2] 23) (fun b2 => pA b2) (some 4) (fun _ => by kernel_rfl) (fun b2 hb2 => ?_)
  refine run_auto [] 10 [] [1, 0, 1] [6, 8, 9, 12, 13] [] (st' := ⟨[(6, .bool false), (8, .agg #[iV p.ll, iV p.lh, iV p.ul, iV p.uh, .slice p.ea p.es.length p.ec]), (9, .agg #[iV l0.1, iV l0.2]), (12, iV (p.es.length : Int)), (13, iV (s : Int))], []⟩) (acc := [(pA b1, pA b1), (pA b2, pA b2), (pA b1, pA b1)]) (by kernel_rfl) (by kernel_rfl) ⟨rfl, rfl, rfl, trivial⟩ ?_
  refine run_ret1 51 #[.agg #[iV p.ll, iV p.lh, iV p.ul, iV p.uh, .slice p.ea p.es.length p.ec], .agg #[iV l0.1, iV l0.2], iV 0, iV (p.es.length : Int), iV (s : Int)] (some 14) (.agg #[iV R.1, iV R.2]) (by kernel_rfl) (fun w1 k1 h1 => run_any p l0 R 0 p.es.length s w1 (hp.keep (k1.keeps (fun _ h => h))) hF (by omega) (by omega) (by omega) hl hR) ?_
  refine run_new (aO #[iV 0, iV 0] 23) (fun b3 => pA b3) (some 7) (fun _ => by kernel_rfl) (fun b3 hb3 => ?_)
  refine run_auto [] 11 [] [0, 0, 0] [6] [] (st' := ⟨[(6, .bool (decide (R.1 ≤ R.2)))], []⟩) (acc := [(pA b3, pA b3), (pA b3, pA b3), (pA b3, pA b3)]) (by kernel_rfl) (by kernel_rfl) ⟨rfl, rfl, rfl, trivial⟩ ?_
  refine run_end (fn := f86) rfl (Nat.le_refl _) (by kernel_rfl) [] [.bool (decide (R.1 ≤ R.2))] (e := []) (by kernel_rfl) trivial (fun w1 k1 h1 => ?_)
  exact ⟨rfl, k1.keeps (fun _ h => h)⟩


/-- What is wrong, by the document. -/
def chkR (p : Wb) (n : Int) (v : Bool) : Int := bif p.n.ok then bif decide (10 < n) then 3 else bif v then bif p.n.can then 0 else 10 else 2 else 1
set_option maxRecDepth 100000 in
theorem check_any (p : Wb) (n : Int) (v : Bool) (w : World) (hp : p.In w) : Calls Tryz.prog 46 #[.agg #[.int .i64 p.ll, .int .i64 p.lh, .int .i64 p.ul, .int .i64 p.uh, .slice p.ea p.es.length p.ec], .int .i64 n, .bool v] w (RetI (chkR p n v) w) := by
  refine calls_run (fn := f46) (c := (f46.body).getD .skip) [.agg #[.int .i64 p.ll, .int .i64 p.lh, .int .i64 p.ul, .int .i64 p.uh, .slice p.ea p.es.length p.ec], .int .i64 n, .bool v] func46 (by kernel_rfl) (fun _ => False) [] (fun _ h => by cases h) (List.Pairwise.nil) 21 (by kernel_rfl) (by simp) ?_
  refine run_auto [] 2 [] [] [0, 1, 2] [] (st' := ⟨[(0, .agg #[iV p.ll, iV p.lh, iV p.ul, iV p.uh, .slice p.ea p.es.length p.ec]), (1, iV n), (2, .bool v)], []⟩) (acc := []) (by kernel_rfl) (by kernel_rfl) trivial ?_
  refine run_new (aO #[iV p.ll, iV p.lh, iV p.ul, iV p.uh, .slice p.ea p.es.length p.ec] 26) (fun b1 => pA b1) (some 3) (fun _ => by kernel_rfl) (fun b1 hb1 => ?_)
  refine run_auto [] 6 [] [0] [1, 2, 3, 6, 7] [0] (st' := ⟨[(1, iV n), (2, .bool v), (3, pA b1), (6, iV 0), (7, .agg #[iV p.ll, iV p.lh, iV p.ul, iV p.uh, .slice p.ea p.es.length p.ec])], [(b1, aO #[iV p.ll, iV p.lh, iV p.ul, iV p.uh, .slice p.ea p.es.length p.ec] 26)]⟩) (acc := [(pA b1, pA b1)]) (by kernel_rfl) (by kernel_rfl) ⟨rfl, trivial⟩ ?_
  cases hd1 : p.n.ok with
  | false =>
    refine run_ret1 33 #[.agg #[iV p.ll, iV p.lh, iV p.ul, iV p.uh, .slice p.ea p.es.length p.ec]] (some 8) (.bool false) (by kernel_rfl) (fun w1 k1 h1 => (by have h := rwear_any p w1 (hp.keep (k1.keeps (fun _ h => h))); rw [hd1] at h; exact h)) ?_
    refine run_auto [(9, .bool true)] 7 [true] [] [1, 2, 3, 6] [0] (st' := ⟨[(1, iV n), (2, .bool v), (3, pA b1), (6, iV 1)], [(b1, aO #[iV p.ll, iV p.lh, iV p.ul, iV p.uh, .slice p.ea p.es.length p.ec] 26)]⟩) (acc := [(.bool true, .bool true), (.bool true, .bool true)]) (by kernel_rfl) (by kernel_rfl) ⟨rfl, rfl, trivial⟩ ?_
    refine run_end (fn := f46) rfl (Nat.le_refl _) (by kernel_rfl) [] [iV 1] (e := []) (by kernel_rfl) trivial (fun w1 k1 h1 => ?_)
    unfold chkR
    rw [hd1]
    exact ⟨rfl, k1.keeps (fun _ h => h)⟩
  | true =>
    have hF := Wn.fine hd1
    have hn8 : p.es.length ≤ 8 := hF.n8
    have hal := all_lt hF
    have hl0 : 0 ≤ p.ll ∧ p.ll ≤ p.lh ∧ p.lh ≤ 300 := hF.l
    refine run_ret1 33 #[.agg #[iV p.ll, iV p.lh, iV p.ul, iV p.uh, .slice p.ea p.es.length p.ec]] (some 8) (.bool true) (by kernel_rfl) (fun w1 k1 h1 => (by have h := rwear_any p w1 (hp.keep (k1.keeps (fun _ h => h))); rw [hd1] at h; exact h)) ?_
    cases hd2 : (decide (10 < n)) with
    | false =>
      have hp2 := of_decide_eq_false hd2
      cases hd3 : v with
      | false =>
        refine run_auto [(9, .bool false), (11, .bool false), (13, .bool true)] 23 [false, false, true] [] [3, 6] [0] (st' := ⟨[(3, pA b1), (6, iV 2)], [(b1, aO #[iV p.ll, iV p.lh, iV p.ul, iV p.uh, .slice p.ea p.es.length p.ec] 26)]⟩) (acc := [(.bool true, .bool true), (.bool true, .bool true), (.bool false, .bool false), (.bool (decide (10 < n)), .bool false), (.bool false, .bool false), (.bool false, .bool false)]) (by kernel_rfl) (by kernel_rfl) ⟨rfl, rfl, rfl, (bo hd2), rfl, rfl, trivial⟩ ?_
        refine run_end (fn := f46) rfl (Nat.le_refl _) (by kernel_rfl) [] [iV 2] (e := []) (by kernel_rfl) trivial (fun w1 k1 h1 => ?_)
        unfold chkR
        rw [hd1, hd2]
        exact ⟨rfl, k1.keeps (fun _ h => h)⟩
      | true =>
        refine run_auto [(9, .bool false), (11, .bool false), (13, .bool false)] 22 [false, false, false] [] [3, 6] [0] (st' := ⟨[(3, pA b1), (6, iV 0)], [(b1, aO #[iV p.ll, iV p.lh, iV p.ul, iV p.uh, .slice p.ea p.es.length p.ec] 26)]⟩) (acc := [(.bool false, .bool false), (.bool false, .bool false), (.bool false, .bool false), (.bool (decide (10 < n)), .bool false), (.bool false, .bool false), (.bool false, .bool false)]) (by kernel_rfl) (by kernel_rfl) ⟨rfl, rfl, rfl, (bo hd2), rfl, rfl, trivial⟩ ?_
        cases hd4 : p.n.can with
        | false =>
          refine drawW 7 [{ val := fun _ => .agg #[iV p.ll, iV p.lh, iV p.ul, iV p.uh, .slice p.ea p.es.length p.ec], slots := [3], reads := [0] },
                      { val := fun _ => pA b1, slots := [3] },
                      { val := fun _ => .agg #[iV p.ll, iV p.lh], slots := [15], reads := [0] },
                      { val := fun _ => .agg #[iV p.ll, iV p.lh, iV p.ul, iV p.uh, .slice p.ea p.es.length p.ec], slots := [3], reads := [0] },
                      { val := fun _ => iV (p.all : Int), slots := [17] },
                      { val := fun _ => .bool false, slots := [14, 16, 18] },
                      { val := fun _ => .bool true, slots := [19] }] [[], [], [1], [], [3], [0, 1, 2, 3, 4], [0, 1, 2, 3, 4, 5]] (by kernel_rfl) (by kernel_rfl) (by kernel_rfl) (by kernel_rfl) [6, 20] [] (by kernel_rfl)
                      ⟨⟨⟨⟨⟨⟨⟨trivial,
                      tri_quietW (fun β => []) [0] [0] (fun β => [(pA b1, pA b1)]) (by kernel_rfl) (fun β extra => by kernel_rfl) (by kernel_rfl) (fun β => ⟨rfl, trivial⟩)⟩,
                      tri_quietW (fun β => []) [] [] (fun β => []) (by kernel_rfl) (fun β extra => by kernel_rfl) (by kernel_rfl) (fun β => trivial)⟩,
                      tri_quietW (fun β => []) [0] [0] (fun β => [(pA b1, pA b1)]) (by kernel_rfl) (fun β extra => by kernel_rfl) (by kernel_rfl) (fun β => ⟨rfl, trivial⟩)⟩,
                      tri_quietW (fun β => []) [0] [0] (fun β => [(pA b1, pA b1)]) (by kernel_rfl) (fun β extra => by kernel_rfl) (by kernel_rfl) (fun β => ⟨rfl, trivial⟩)⟩,
                      tri_callVW (fun β => iV (p.all : Int)) (fun β => by kernel_rfl) 52 (fun β => #[.agg #[iV p.ll, iV p.lh, iV p.ul, iV p.uh, .slice p.ea p.es.length p.ec]]) (by kernel_rfl) (fun β extra => by kernel_rfl) (fun β => by kernel_rfl) (fun β w1 k1 h1 => every_any p w1 hn8)⟩,
                      tri_callVW (fun β => .bool false) (fun β => by kernel_rfl) 86 (fun β => #[.agg #[iV p.ll, iV p.lh, iV p.ul, iV p.uh, .slice p.ea p.es.length p.ec], .agg #[iV p.ll, iV p.lh], iV (p.all : Int)]) (by kernel_rfl) (fun β extra => by kernel_rfl) (fun β => by kernel_rfl) (fun β w1 k1 h1 => (by have h := (by have h := can_any p (p.ll, p.lh) _ p.all w1 (hp.keep (k1.keeps (fun _ h => h))) hF hal (by unfold bdS; dsimp only; omega) rfl; rw [can_rn hF] at h; exact h); rw [hd4] at h; exact h))⟩,
                      tri_quietW (fun β => [(20, .bool true)]) [] [] (fun β => [(.bool true, .bool true)]) (by kernel_rfl) (fun β extra => by kernel_rfl) (by kernel_rfl) (fun β => ⟨rfl, trivial⟩)⟩
                      (fun β => ⟨[(6, iV 0), (20, .bool true)], []⟩) (fun β => by kernel_rfl) (fun β2 => ?_)
          refine run_auto [] 5 [true] [] [6] [] (st' := ⟨[(6, iV 10)], []⟩) (acc := [(.bool true, .bool true)]) (by kernel_rfl) (by kernel_rfl) ⟨rfl, trivial⟩ ?_
          refine run_end (fn := f46) rfl (Nat.le_refl _) (by kernel_rfl) [] [iV 10] (e := []) (by kernel_rfl) trivial (fun w1 k1 h1 => ?_)
          unfold chkR
          rw [hd1, hd2, hd4]
          exact ⟨rfl, k1.keeps (fun _ h => h)⟩
        | true =>
          refine drawW 7 [{ val := fun _ => .agg #[iV p.ll, iV p.lh, iV p.ul, iV p.uh, .slice p.ea p.es.length p.ec], slots := [3], reads := [0] },
                      { val := fun _ => pA b1, slots := [3] },
                      { val := fun _ => .agg #[iV p.ll, iV p.lh], slots := [15], reads := [0] },
                      { val := fun _ => .agg #[iV p.ll, iV p.lh, iV p.ul, iV p.uh, .slice p.ea p.es.length p.ec], slots := [3], reads := [0] },
                      { val := fun _ => iV (p.all : Int), slots := [17] },
                      { val := fun _ => .bool true, slots := [14, 16, 18] },
                      { val := fun _ => .bool false, slots := [19] }] [[], [], [1], [], [3], [0, 1, 2, 3, 4], [0, 1, 2, 3, 4, 5]] (by kernel_rfl) (by kernel_rfl) (by kernel_rfl) (by kernel_rfl) [6, 20] [] (by kernel_rfl)
                      ⟨⟨⟨⟨⟨⟨⟨trivial,
                      tri_quietW (fun β => []) [0] [0] (fun β => [(pA b1, pA b1)]) (by kernel_rfl) (fun β extra => by kernel_rfl) (by kernel_rfl) (fun β => ⟨rfl, trivial⟩)⟩,
                      tri_quietW (fun β => []) [] [] (fun β => []) (by kernel_rfl) (fun β extra => by kernel_rfl) (by kernel_rfl) (fun β => trivial)⟩,
                      tri_quietW (fun β => []) [0] [0] (fun β => [(pA b1, pA b1)]) (by kernel_rfl) (fun β extra => by kernel_rfl) (by kernel_rfl) (fun β => ⟨rfl, trivial⟩)⟩,
                      tri_quietW (fun β => []) [0] [0] (fun β => [(pA b1, pA b1)]) (by kernel_rfl) (fun β extra => by kernel_rfl) (by kernel_rfl) (fun β => ⟨rfl, trivial⟩)⟩,
                      tri_callVW (fun β => iV (p.all : Int)) (fun β => by kernel_rfl) 52 (fun β => #[.agg #[iV p.ll, iV p.lh, iV p.ul, iV p.uh, .slice p.ea p.es.length p.ec]]) (by kernel_rfl) (fun β extra => by kernel_rfl) (fun β => by kernel_rfl) (fun β w1 k1 h1 => every_any p w1 hn8)⟩,
                      tri_callVW (fun β => .bool true) (fun β => by kernel_rfl) 86 (fun β => #[.agg #[iV p.ll, iV p.lh, iV p.ul, iV p.uh, .slice p.ea p.es.length p.ec], .agg #[iV p.ll, iV p.lh], iV (p.all : Int)]) (by kernel_rfl) (fun β extra => by kernel_rfl) (fun β => by kernel_rfl) (fun β w1 k1 h1 => (by have h := (by have h := can_any p (p.ll, p.lh) _ p.all w1 (hp.keep (k1.keeps (fun _ h => h))) hF hal (by unfold bdS; dsimp only; omega) rfl; rw [can_rn hF] at h; exact h); rw [hd4] at h; exact h))⟩,
                      tri_quietW (fun β => [(20, .bool false)]) [] [] (fun β => [(.bool false, .bool false)]) (by kernel_rfl) (fun β extra => by kernel_rfl) (by kernel_rfl) (fun β => ⟨rfl, trivial⟩)⟩
                      (fun β => ⟨[(6, iV 0), (20, .bool false)], []⟩) (fun β => by kernel_rfl) (fun β2 => ?_)
          refine run_auto [] 6 [false] [] [6] [] (st' := ⟨[(6, iV 0)], []⟩) (acc := [(.bool false, .bool false)]) (by kernel_rfl) (by kernel_rfl) ⟨rfl, trivial⟩ ?_
          refine run_end (fn := f46) rfl (Nat.le_refl _) (by kernel_rfl) [] [iV 0] (e := []) (by kernel_rfl) trivial (fun w1 k1 h1 => ?_)
          unfold chkR
          rw [hd1, hd2, hd4]
          exact ⟨rfl, k1.keeps (fun _ h => h)⟩
    | true =>
      have hp2 := of_decide_eq_true hd2
      refine run_auto [(9, .bool false), (11, .bool true)] 15 [false, true] [] [2, 3, 6] [0] (st' := ⟨[(2, .bool v), (3, pA b1), (6, iV 3)], [(b1, aO #[iV p.ll, iV p.lh, iV p.ul, iV p.uh, .slice p.ea p.es.length p.ec] 26)]⟩) (acc := [(.bool true, .bool true), (.bool (decide (10 < n)), .bool true), (.bool false, .bool false), (.bool false, .bool false)]) (by kernel_rfl) (by kernel_rfl) ⟨rfl, (bo hd2), rfl, rfl, trivial⟩ ?_
      refine run_end (fn := f46) rfl (Nat.le_refl _) (by kernel_rfl) [] [iV 3] (e := []) (by kernel_rfl) trivial (fun w1 k1 h1 => ?_)
      unfold chkR
      rw [hd1, hd2]
      exact ⟨rfl, k1.keeps (fun _ h => h)⟩

end Go.Proofs.YtdjnkdelmmpleaaGreat
