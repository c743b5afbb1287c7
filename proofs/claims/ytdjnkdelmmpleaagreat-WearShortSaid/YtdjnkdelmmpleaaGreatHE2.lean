/-
  LAW: WearShort, walked.
-/
import Derived.Test.YtdjnkdelmmpleaaGreatHE1
namespace Go.Proofs.YtdjnkdelmmpleaaGreat
open Go.RowKit Go.Proofs.Tryz

set_option maxRecDepth 100000 in
set_option maxHeartbeats 4000000 in
theorem wearShort_any (p : Wb) (y z : Int) (xs : List Int) (sa : Option Addr) (sk : Nat) (y1 : 0 ≤ y) (y2 : y ≤ 65535) (z1 : 0 ≤ z) (z2 : z ≤ 255) (w : World) (hp : p.In w) (hB : RowB w sa xs) (hxl : xs.length ≤ maxLen) : Calls Tryz.prog 7 #[.agg #[.int .i64 p.ll, .int .i64 p.lh, .int .i64 p.ul, .int .i64 p.uh, .slice p.ea p.es.length p.ec], .int .u16 y, .slice sa xs.length sk, .int .u8 z] w (RetB true w) := by
  obtain ⟨r, hr⟩ : ∃ r, y % 420 = r := ⟨_, rfl⟩
  obtain ⟨d, hd⟩ : ∃ d, z % 50 = d := ⟨_, rfl⟩
  obtain ⟨m, hmr⟩ : ∃ m, r - 60 = m := ⟨_, rfl⟩
  have hm1 : spI (m, m) (-1000) 1000 = true := sp_self (by omega) (by omega)
  have hm2 : spI (m - d, m - d) (-1000) 1000 = true := sp_self (by omega) (by omega)
  obtain ⟨uv, huv⟩ : ∃ x, inA (untilR p m) = x := ⟨_, rfl⟩
  obtain ⟨ue, hue⟩ : ∃ x, erA (untilR p m) = x := ⟨_, rfl⟩
  obtain ⟨vv, hvv⟩ : ∃ x, inA (untilR p (m - d)) = x := ⟨_, rfl⟩
  obtain ⟨ve, hve⟩ : ∃ x, erA (untilR p (m - d)) = x := ⟨_, rfl⟩
  obtain ⟨D, hDe⟩ : ∃ D, Dl xs xs.length = D := ⟨_, rfl⟩
  have hDo := Dl_ok xs xs.length
  rw [hDe] at hDo
  obtain ⟨hD10, hDv⟩ := hDo
  obtain ⟨dv, hdv⟩ : ∃ x, inA (dayR p m D) = x := ⟨_, rfl⟩
  obtain ⟨de, hde⟩ : ∃ x, erA (dayR p m D) = x := ⟨_, rfl⟩
  refine calls_run (fn := f7) (c := (f7.body).getD .skip) [.agg #[.int .i64 p.ll, .int .i64 p.lh, .int .i64 p.ul, .int .i64 p.uh, .slice p.ea p.es.length p.ec], .int .u16 y, .slice sa xs.length sk, .int .u8 z] func7 (by kernel_rfl) (fun _ => False) [] (fun _ h => by cases h) (List.Pairwise.nil) 273 (by kernel_rfl) (by simp) ?_
  refine run_auto [] 2 [] [] [0, 1, 2, 3] [] (st' := ⟨[(0, .agg #[iV p.ll, iV p.lh, iV p.ul, iV p.uh, .slice p.ea p.es.length p.ec]), (1, .int .u16 y), (2, .slice sa xs.length sk), (3, .int .u8 z)], []⟩) (acc := []) (by kernel_rfl) (by kernel_rfl) trivial ?_
  refine run_new (aO #[iV p.ll, iV p.lh, iV p.ul, iV p.uh, .slice p.ea p.es.length p.ec] 26) (fun b1 => pA b1) (some 4) (fun _ => by kernel_rfl) (fun b1 hb1 => ?_)
  refine run_auto [] 6 [] [0] [1, 2, 3, 4, 8, 29] [0] (st' := ⟨[(1, .int .u16 y), (2, .slice sa xs.length sk), (3, .int .u8 z), (4, pA b1), (8, .bool false), (29, .agg #[iV p.ll, iV p.lh, iV p.ul, iV p.uh, .slice p.ea p.es.length p.ec])], [(b1, aO #[iV p.ll, iV p.lh, iV p.ul, iV p.uh, .slice p.ea p.es.length p.ec] 26)]⟩) (acc := [(pA b1, pA b1)]) (by kernel_rfl) (by kernel_rfl) ⟨rfl, trivial⟩ ?_
  cases hd1 : p.n.ok with
  | false =>
    refine run_ret1 28 #[.agg #[iV p.ll, iV p.lh, iV p.ul, iV p.uh, .slice p.ea p.es.length p.ec]] (some 30) (.bool false) (by kernel_rfl) (fun w1 k1 h1 => (by have h := fine_any p w1 (hp.keep (k1.keeps (fun _ h => h))); rw [hd1] at h; exact h)) ?_
    refine run_auto [(31, .bool true)] 5 [true] [] [1, 2, 3, 4, 8] [0] (st' := ⟨[(1, .int .u16 y), (2, .slice sa xs.length sk), (3, .int .u8 z), (4, pA b1), (8, .bool false)], [(b1, aO #[iV p.ll, iV p.lh, iV p.ul, iV p.uh, .slice p.ea p.es.length p.ec] 26)]⟩) (acc := [(.bool true, .bool true), (.bool true, .bool true)]) (by kernel_rfl) (by kernel_rfl) ⟨rfl, rfl, trivial⟩ ?_
    refine run_ret1 13 #[] (some 32) (.bool true) (by kernel_rfl) (fun w1 k1 h1 => awake_any w1) ?_
    refine run_auto [] 2 [] [] [1, 2, 3, 4, 8] [0] (st' := ⟨[(1, .int .u16 y), (2, .slice sa xs.length sk), (3, .int .u8 z), (4, pA b1), (8, .bool true)], [(b1, aO #[iV p.ll, iV p.lh, iV p.ul, iV p.uh, .slice p.ea p.es.length p.ec] 26)]⟩) (acc := []) (by kernel_rfl) (by kernel_rfl) trivial ?_
    refine run_end (fn := f7) rfl (Nat.le_refl _) (by kernel_rfl) [] [.bool true] (e := []) (by kernel_rfl) trivial (fun w1 k1 h1 => ?_)
    exact ⟨rfl, k1.keeps (fun _ h => h)⟩
  | true =>
    have hok := hd1
    have hF := Wn.fine hok
    have hn8 : p.es.length ≤ 8 := hF.n8
    have hl0 : 0 ≤ p.ll ∧ p.ll ≤ p.lh ∧ p.lh ≤ 300 := hF.l
    have hu0 : 0 ≤ p.ul ∧ p.ul ≤ p.uh ∧ p.uh ≤ 3 := hF.u
    have hb := bel_lt (w := p.n) m hn8
    refine run_ret1 28 #[.agg #[iV p.ll, iV p.lh, iV p.ul, iV p.uh, .slice p.ea p.es.length p.ec]] (some 30) (.bool true) (by kernel_rfl) (fun w1 k1 h1 => (by have h := fine_any p w1 (hp.keep (k1.keeps (fun _ h => h))); rw [hd1] at h; exact h)) ?_
    refine run_auto [(31, .bool false), (34, iV y), (35, iV r), (36, iV m)] 16 [false] [0] [2, 3, 4, 8, 9, 38, 39] [0] (st' := ⟨[(2, .slice sa xs.length sk), (3, .int .u8 z), (4, pA b1), (8, .bool false), (9, iV m), (38, .agg #[iV p.ll, iV p.lh, iV p.ul, iV p.uh, .slice p.ea p.es.length p.ec]), (39, iV m)], [(b1, aO #[iV p.ll, iV p.lh, iV p.ul, iV p.uh, .slice p.ea p.es.length p.ec] 26)]⟩) (acc := [(pA b1, pA b1), (iV (IntKind.i64.wrap (r - 60)), iV m), (iV (Int.tmod y 420), iV r), (iV (IntKind.i64.wrap y), iV y), (.bool false, .bool false), (.bool false, .bool false)]) (by kernel_rfl) (by kernel_rfl) ⟨rfl, ((wr (by omega) (by omega)).trans (io hmr)), ((rm 420 (by omega)).trans (io hr)), (wr (by omega) (by omega)), rfl, rfl, trivial⟩ ?_
    cases hd2 : p.n.can with
    | false =>
      have hU := until_no hF hd2 hm1 huv hue
      have hV := until_no hF hd2 hm2 hvv hve
      refine run_ret1 18 #[.agg #[iV p.ll, iV p.lh, iV p.ul, iV p.uh, .slice p.ea p.es.length p.ec], iV m] (some 40) (.tuple #[iV 0, iV 0, iV 10]) (by kernel_rfl) (fun w1 k1 h1 => (by have h := Below_any p m w1 (hp.keep (k1.keeps (fun _ h => h))); rw [show belowR p m = .inl 10 from by unfold belowR; rw [hok, hm1, hd2]; rfl] at h; exact h)) ?_
      refine run_auto [] 12 [] [0] [2, 3, 4, 8, 9, 10, 11, 12, 45, 46] [0] (st' := ⟨[(2, .slice sa xs.length sk), (3, .int .u8 z), (4, pA b1), (8, .bool false), (9, iV m), (10, iV 0), (11, iV 0), (12, iV 10), (45, .agg #[iV p.ll, iV p.lh, iV p.ul, iV p.uh, .slice p.ea p.es.length p.ec]), (46, iV m)], [(b1, aO #[iV p.ll, iV p.lh, iV p.ul, iV p.uh, .slice p.ea p.es.length p.ec] 26)]⟩) (acc := [(pA b1, pA b1)]) (by kernel_rfl) (by kernel_rfl) ⟨rfl, trivial⟩ ?_
      refine run_ret1 22 #[.agg #[iV p.ll, iV p.lh, iV p.ul, iV p.uh, .slice p.ea p.es.length p.ec], iV m] (some 47) (.tuple #[iV uv, iV ue]) (by kernel_rfl) (fun w1 k1 h1 => (by have h := Until_any p m w1 (hp.keep (k1.keeps (fun _ h => h))); rw [huv, hue] at h; exact h)) ?_
      refine run_auto [(54, iV z), (55, iV d), (56, iV (m - d))] 14 [] [0] [2, 4, 8, 9, 10, 11, 12, 13, 14, 51, 56] [0] (st' := ⟨[(2, .slice sa xs.length sk), (4, pA b1), (8, .bool false), (9, iV m), (10, iV 0), (11, iV 0), (12, iV 10), (13, iV uv), (14, iV ue), (51, .agg #[iV p.ll, iV p.lh, iV p.ul, iV p.uh, .slice p.ea p.es.length p.ec]), (56, iV (m - d))], [(b1, aO #[iV p.ll, iV p.lh, iV p.ul, iV p.uh, .slice p.ea p.es.length p.ec] 26)]⟩) (acc := [(iV (IntKind.i64.wrap (m - d)), iV (m - d)), (iV (Int.tmod z 50), iV d), (iV (IntKind.i64.wrap z), iV z), (pA b1, pA b1)]) (by kernel_rfl) (by kernel_rfl) ⟨(wr (by omega) (by omega)), ((rm 50 (by omega)).trans (io hd)), (wr (by omega) (by omega)), rfl, trivial⟩ ?_
      refine run_ret1 22 #[.agg #[iV p.ll, iV p.lh, iV p.ul, iV p.uh, .slice p.ea p.es.length p.ec], iV (m - d)] (some 57) (.tuple #[iV vv, iV ve]) (by kernel_rfl) (fun w1 k1 h1 => (by have h := Until_any p (m - d) w1 (hp.keep (k1.keeps (fun _ h => h))); rw [hvv, hve] at h; exact h)) ?_
      refine run_auto [] 18 [] [] [4, 8, 9, 10, 11, 12, 13, 14, 15, 16, 17, 60, 61, 62] [0] (st' := ⟨[(4, pA b1), (8, .bool false), (9, iV m), (10, iV 0), (11, iV 0), (12, iV 10), (13, iV uv), (14, iV ue), (15, iV vv), (16, iV ve), (17, .slice none 0 0), (60, .slice sa xs.length sk), (61, iV (xs.length : Int)), (62, iV 0)], [(b1, aO #[iV p.ll, iV p.lh, iV p.ul, iV p.uh, .slice p.ea p.es.length p.ec] 26)]⟩) (acc := []) (by kernel_rfl) (by kernel_rfl) trivial ?_
      refine run_auto [] 0 [] [] [4, 8, 9, 10, 11, 12, 13, 14, 15, 16, 17, 60, 61, 62] [0] (st' := ⟨[(4, pA b1), (8, .bool false), (9, iV m), (10, iV 0), (11, iV 0), (12, iV 10), (13, iV uv), (14, iV ue), (15, iV vv), (16, iV ve), (17, .slice none 0 0), (60, .slice sa xs.length sk), (61, iV (xs.length : Int)), (62, iV 0)], [(b1, aO #[iV p.ll, iV p.lh, iV p.ul, iV p.uh, .slice p.ea p.es.length p.ec] 26)]⟩) (acc := []) (by kernel_rfl) (by kernel_rfl) trivial ?_
      refine run_loop (S := fun (v : Nat × Nat × Option (Nat × Nat × List Value)) => match v with | (i, _, none) => ⟨[(4, pA b1), (8, .bool false), (9, iV m), (10, iV 0), (11, iV 0), (12, iV 10), (13, iV uv), (14, iV ue), (15, iV vv), (16, iV ve), (17, .slice none 0 0), (60, .slice sa xs.length sk), (61, iV (xs.length : Int)), (62, iV (i : Int))], [(b1, aO #[iV p.ll, iV p.lh, iV p.ul, iV p.uh, .slice p.ea p.es.length p.ec] 26)]⟩ | (i, k, some (g, cap, sp)) => ⟨[(4, pA b1), (8, .bool false), (9, iV m), (10, iV 0), (11, iV 0), (12, iV 10), (13, iV uv), (14, iV ue), (15, iV vv), (16, iV ve), (17, sV g k cap), (60, .slice sa xs.length sk), (61, iV (xs.length : Int)), (62, iV (i : Int))], [(g, cO ((Dl xs i).flatMap inR ++ sp) 3), (b1, aO #[iV p.ll, iV p.lh, iV p.ul, iV p.uh, .slice p.ea p.es.length p.ec] 26)]⟩) (fun v => v.1 ≤ xs.length ∧ (Dl xs v.1).length = v.2.1 ∧ match v.2.2 with | none => v.2.1 = 0 | some (g, cap, sp) => 1 ≤ v.2.1 ∧ v.2.1 ≤ cap ∧ cap ≤ maxLen ∧ ((Dl xs v.1).flatMap inR ++ sp).length = cap * 1 ∧ w.heap.size ≤ g) (fun v => xs.length - v.1) ((0, 0, none)) (by kernel_rfl) (⟨Nat.zero_le _, rfl, rfl⟩) (by simp) (fun v hI0 J0 hJ0 => ?_)
      obtain ⟨i, k, _ | ⟨g, cap, sp⟩⟩ := v
      · skip
        obtain ⟨hz1, hz2, hz3⟩ := hI0
        dsimp only at hz1 hz2 hz3
        have hzl := Dl_len xs i hz1
        have hml : (1000000 : Nat) ≤ maxLen := by simp only [maxLen]; omega
        have hxl2 : xs.length ≤ 2 ^ 63 - 1 := by have h := hxl; simp only [maxLen] at h; exact h
        cases hd3 : (decide ((i : Int) < (xs.length : Int))) with
        | false =>
          have hp3 := of_decide_eq_false hd3
          have hD : Dl xs i = D := by rw [show i = xs.length by omega]; exact hDe
          rw [hD] at hz2
          have hDk := hz2
          have hDn : D = [] := List.eq_nil_of_length_eq_zero (by rw [hz2, hz3])
          have hY := day_no hF hd2 hD10 hDv hm1 hdv hde
          refine run_auto [(63, .bool false)] 12 [false] [0] [4, 8, 9, 10, 11, 12, 13, 14, 15, 16, 17, 77, 78, 79] [0] (st' := ⟨[(4, pA b1), (8, .bool false), (9, iV m), (10, iV 0), (11, iV 0), (12, iV 10), (13, iV uv), (14, iV ue), (15, iV vv), (16, iV ve), (17, .slice none 0 0), (77, .agg #[iV p.ll, iV p.lh, iV p.ul, iV p.uh, .slice p.ea p.es.length p.ec]), (78, iV m), (79, .slice none 0 0)], [(b1, aO #[iV p.ll, iV p.lh, iV p.ul, iV p.uh, .slice p.ea p.es.length p.ec] 26)]⟩) (acc := [(pA b1, pA b1), (.bool false, .bool false), (.bool (decide ((i : Int) < (xs.length : Int))), .bool false)]) (by kernel_rfl) (by kernel_rfl) ⟨rfl, rfl, (bo hd3), trivial⟩ ?_
          refine run_ret1 24 #[.agg #[iV p.ll, iV p.lh, iV p.ul, iV p.uh, .slice p.ea p.es.length p.ec], iV m, .slice none 0 0] (some 80) (.tuple #[iV dv, iV de]) (by kernel_rfl) (fun w1 k1 h1 => (by have h := Day_any p m [] none 0 w1 (hp.keep (k1.keeps (fun _ h => h))) Ins.nil (Nat.zero_le _); rw [show dayR p m [] = dayR p m D by rw [hDn], hdv, hde] at h; exact h)) ?_
          cases hd4 : (ue == 10) with
          | false =>
            have hp4 : ¬ ue = 10 := by simpa using hd4
            exfalso
            omega
          | true =>
            have hp4 : ue = 10 := by simpa using hd4
            cases hd5 : (ve == 10) with
            | false =>
              have hp5 : ¬ ve = 10 := by simpa using hd5
              exfalso
              omega
            | true =>
              have hp5 : ve = 10 := by simpa using hd5
              cases hd6 : (de == 10) with
              | false =>
                have hp6 : ¬ de = 10 := by simpa using hd6
                exfalso
                omega
              | true =>
                have hp6 : de = 10 := by simpa using hd6
                cases hd7 : (uv == 0) with
                | false =>
                  have hp7 : ¬ uv = 0 := by simpa using hd7
                  exfalso
                  omega
                | true =>
                  have hp7 : uv = 0 := by simpa using hd7
                  cases hd8 : (dv == 0) with
                  | false =>
                    have hp8 : ¬ dv = 0 := by simpa using hd8
                    exfalso
                    omega
                  | true =>
                    have hp8 : dv = 0 := by simpa using hd8
                    refine run_auto [(84, .bool true), (86, .bool true), (90, .bool true), (95, .bool true), (100, .bool true), (104, .bool true), (108, .bool true), (112, .bool true), (116, .bool true)] 49 [true] [] [4, 8, 9, 10, 11, 13, 14, 15, 16, 17, 20, 21, 118] [0] (st' := ⟨[(4, pA b1), (8, .bool false), (9, iV m), (10, iV 0), (11, iV 0), (13, iV uv), (14, iV ue), (15, iV vv), (16, iV ve), (17, .slice none 0 0), (20, iV dv), (21, iV de), (118, .bool true)], [(b1, aO #[iV p.ll, iV p.lh, iV p.ul, iV p.uh, .slice p.ea p.es.length p.ec] 26)]⟩) (acc := [(.bool (dv == 0), .bool true), (.bool (uv == 0), .bool true), (.bool true, .bool true), (.bool true, .bool true), (.bool (de == 10), .bool true), (.bool (ve == 10), .bool true), (.bool (ue == 10), .bool true), (.bool true, .bool true), (.bool true, .bool true), (.bool true, .bool true)]) (by kernel_rfl) (by kernel_rfl) ⟨(bo hd8), (bo hd7), rfl, rfl, (bo hd6), (bo hd5), (bo hd4), rfl, rfl, rfl, trivial⟩ ?_
                    refine run_ret1 13 #[] (some 119) (.bool true) (by kernel_rfl) (fun w1 k1 h1 => awake_any w1) ?_
                    refine run_auto [] 3 [] [] [4, 8, 9, 10, 11, 13, 14, 15, 16, 17, 20, 21] [0] (st' := ⟨[(4, pA b1), (8, .bool true), (9, iV m), (10, iV 0), (11, iV 0), (13, iV uv), (14, iV ue), (15, iV vv), (16, iV ve), (17, .slice none 0 0), (20, iV dv), (21, iV de)], [(b1, aO #[iV p.ll, iV p.lh, iV p.ul, iV p.uh, .slice p.ea p.es.length p.ec] 26)]⟩) (acc := []) (by kernel_rfl) (by kernel_rfl) trivial ?_
                    refine run_end (fn := f7) rfl (Nat.le_refl _) (by kernel_rfl) [] [.bool true] (e := []) (by kernel_rfl) trivial (fun w1 k1 h1 => ?_)
                    exact ⟨rfl, k1.keeps (fun _ h => h)⟩
        | true =>
          have hp3 := of_decide_eq_true hd3
          have hil : i < xs.length := by omega
          obtain ⟨bx, ox, hba, hcx⟩ := hB (by intro h; rw [h] at hil; cases hil)
          have hc := hcx i hil
          refine run_auto [(63, .bool true)] 12 [true] [] [4, 8, 9, 10, 11, 12, 13, 14, 15, 16, 17, 60, 61, 62, 64] [0] (st' := ⟨[(4, pA b1), (8, .bool false), (9, iV m), (10, iV 0), (11, iV 0), (12, iV 10), (13, iV uv), (14, iV ue), (15, iV vv), (16, iV ve), (17, .slice none 0 0), (60, .slice sa xs.length sk), (61, iV (xs.length : Int)), (62, iV (i : Int)), (64, iV (i : Int))], [(b1, aO #[iV p.ll, iV p.lh, iV p.ul, iV p.uh, .slice p.ea p.es.length p.ec] 26)]⟩) (acc := [(.bool true, .bool true), (.bool (decide ((i : Int) < (xs.length : Int))), .bool true)]) (by kernel_rfl) (by kernel_rfl) ⟨rfl, (bo hd3), trivial⟩ ?_
          refine run_v (Instr.indexAt 45 (.slice sa xs.length sk) (iV (i : Int)) >>= fun v => pure (Next.value v)) (some 65) (.pointer (some ⟨bx, ox + i, none⟩)) (by kernel_rfl) (fun w1 k1 h1 => (by rw [hba]; exact idx_off (e := 5) (n := 1) (by kernel_rfl) (by kernel_rfl) bx ox xs.length sk .i64 i hil (ox + i) (by omega) w1)) ?_
          refine run_v (Instr.loadAt 5 (.pointer (some ⟨bx, ox + i, none⟩)) >>= fun v => pure (Next.value v)) (some 66) (.int .u8 (elI xs i)) (by kernel_rfl) (fun w1 k1 h1 => load_in (off := 0) k1 (fun h => h) [.int .u8 (elI xs i)] (c1 hc.1) (by kernel_rfl)) ?_
          cases hd4 : (decide ((i : Int) < 10)) with
          | false =>
            have hp4 := of_decide_eq_false hd4
            refine run_auto [(68, .bool false), (75, iV ((i + 1 : Nat) : Int))] 15 [false] [] [4, 8, 9, 10, 11, 12, 13, 14, 15, 16, 17, 60, 61, 62] [0] (st' := ⟨[(4, pA b1), (8, .bool false), (9, iV m), (10, iV 0), (11, iV 0), (12, iV 10), (13, iV uv), (14, iV ue), (15, iV vv), (16, iV ve), (17, .slice none 0 0), (60, .slice sa xs.length sk), (61, iV (xs.length : Int)), (62, iV ((i + 1 : Nat) : Int))], [(b1, aO #[iV p.ll, iV p.lh, iV p.ul, iV p.uh, .slice p.ea p.es.length p.ec] 26)]⟩) (acc := [(iV (IntKind.i64.wrap ((i : Int) + 1)), iV ((i + 1 : Nat) : Int)), (.bool false, .bool false), (.bool (decide ((i : Int) < 10)), .bool false)]) (by kernel_rfl) (by kernel_rfl) ⟨(wr (by omega) (by omega)), rfl, (bo hd4), trivial⟩ ?_
            have hst := Dl_no (xs := xs) (i := i) (by omega)
            have hj := hJ0 ((i + 1, 0, none)) (⟨by dsimp only; omega, by rw [hst, hz2, hz3], rfl⟩) (by dsimp only; omega)
            dsimp only at hj
            exact run_round (by kernel_rfl) hj
          | true =>
            have hp4 := of_decide_eq_true hd4
            refine run_auto [(68, .bool true), (71, iV (elI xs i)), (72, iV (elI xs i % 21))] 14 [true] [] [4, 8, 9, 10, 11, 12, 13, 14, 15, 16, 17, 60, 61, 62, 69, 72] [0] (st' := ⟨[(4, pA b1), (8, .bool false), (9, iV m), (10, iV 0), (11, iV 0), (12, iV 10), (13, iV uv), (14, iV ue), (15, iV vv), (16, iV ve), (17, .slice none 0 0), (60, .slice sa xs.length sk), (61, iV (xs.length : Int)), (62, iV (i : Int)), (69, .slice none 0 0), (72, iV (elI xs i % 21))], [(b1, aO #[iV p.ll, iV p.lh, iV p.ul, iV p.uh, .slice p.ea p.es.length p.ec] 26)]⟩) (acc := [(iV (Int.tmod (elI xs i) 21), iV (elI xs i % 21)), (iV (IntKind.i64.wrap (elI xs i)), iV (elI xs i)), (.bool true, .bool true), (.bool (decide ((i : Int) < 10)), .bool true)]) (by kernel_rfl) (by kernel_rfl) ⟨(rm 21 (by omega)), (wr (by omega) (by omega)), rfl, (bo hd4), trivial⟩ ?_
            refine run_new (aO #[iV (elI xs i % 21)] 3) (fun b2 => sV b2 1 1) (some 73) (fun _ => by kernel_rfl) (fun b2 hb2 => ?_)
            refine run_app_none (t := 38) (ty := 38) (e := 3) (n := 1) (z := (iV 0)) (by kernel_rfl) (by kernel_rfl) (by kernel_rfl) rfl (by kernel_rfl) inR inR_len (some 74) 1 1 ([(elI xs i % 21)] : List Int) ⟨b2, 0, none⟩ (by first | rfl | omega | (simp; done) | (simp; omega)) (by omega) (by kernel_rfl) (fun w1 k1 h1 jq uq hu => by rw [add_none, Nat.zero_add]; exact cells_of_heap (h1 (b2, aO #[iV (elI xs i % 21)] 3) (List.mem_of_getElem? (i := 0) (by kernel_rfl))) jq uq hu) (by omega) (fun b3 cap3 sp3 hb3 hqb3 hmb3 hlb3 => ?_)
            refine run_auto [(75, iV ((i + 1 : Nat) : Int))] 7 [] [] [4, 8, 9, 10, 11, 12, 13, 14, 15, 16, 17, 60, 61, 62] [0, 2] (st' := ⟨[(4, pA b1), (8, .bool false), (9, iV m), (10, iV 0), (11, iV 0), (12, iV 10), (13, iV uv), (14, iV ue), (15, iV vv), (16, iV ve), (17, sV b3 1 cap3), (60, .slice sa xs.length sk), (61, iV (xs.length : Int)), (62, iV ((i + 1 : Nat) : Int))], [(b3, cO ((([(elI xs i % 21)] : List Int)).flatMap inR ++ sp3) 3), (b1, aO #[iV p.ll, iV p.lh, iV p.ul, iV p.uh, .slice p.ea p.es.length p.ec] 26)]⟩) (acc := [(iV (IntKind.i64.wrap ((i : Int) + 1)), iV ((i + 1 : Nat) : Int))]) (by kernel_rfl) (by kernel_rfl) ⟨(wr (by omega) (by omega)), trivial⟩ ?_
            have hst := Dl_yes hil (show i < 10 by omega)
            have e0 : Dl xs i = [] := List.eq_nil_of_length_eq_zero (by rw [hz2, hz3])
            rw [e0, List.nil_append] at hst
            have hj := hJ0 ((i + 1, 1, some (b3, cap3, sp3))) (⟨by dsimp only; omega, by rw [hst]; rfl, by dsimp only; omega, hqb3, hmb3, by rw [hst]; exact hlb3, hb3⟩) (by dsimp only; omega)
            dsimp only at hj
            rw [hst] at hj
            exact run_round (by kernel_rfl) hj
      · skip
        obtain ⟨hz1, hz2, hz3⟩ := hI0
        dsimp only at hz1 hz2 hz3
        have hzl := Dl_len xs i hz1
        have hml : (1000000 : Nat) ≤ maxLen := by simp only [maxLen]; omega
        have hxl2 : xs.length ≤ 2 ^ 63 - 1 := by have h := hxl; simp only [maxLen] at h; exact h
        obtain ⟨hz4, hz5, hz6, hz7, hz8⟩ := hz3
        cases hd3 : (decide ((i : Int) < (xs.length : Int))) with
        | false =>
          have hp3 := of_decide_eq_false hd3
          have hD : Dl xs i = D := by rw [show i = xs.length by omega]; exact hDe
          rw [hD] at hz2
          have hDk := hz2
          dsimp only
          rw [hD]
          rw [hD] at hz7
          have hY := day_no hF hd2 hD10 hDv hm1 hdv hde
          refine run_auto [(63, .bool false)] 12 [false] [1] [4, 8, 9, 10, 11, 12, 13, 14, 15, 16, 17, 77, 78, 79] [0, 1] (st' := ⟨[(4, pA b1), (8, .bool false), (9, iV m), (10, iV 0), (11, iV 0), (12, iV 10), (13, iV uv), (14, iV ue), (15, iV vv), (16, iV ve), (17, sV g k cap), (77, .agg #[iV p.ll, iV p.lh, iV p.ul, iV p.uh, .slice p.ea p.es.length p.ec]), (78, iV m), (79, sV g k cap)], [(g, cO ((D).flatMap inR ++ sp) 3), (b1, aO #[iV p.ll, iV p.lh, iV p.ul, iV p.uh, .slice p.ea p.es.length p.ec] 26)]⟩) (acc := [(pA b1, pA b1), (.bool false, .bool false), (.bool (decide ((i : Int) < (xs.length : Int))), .bool false)]) (by kernel_rfl) (by kernel_rfl) ⟨rfl, rfl, (bo hd3), trivial⟩ ?_
          refine run_ret1 24 #[.agg #[iV p.ll, iV p.lh, iV p.ul, iV p.uh, .slice p.ea p.es.length p.ec], iV m, sV g k cap] (some 80) (.tuple #[iV dv, iV de]) (by kernel_rfl) (fun w1 k1 h1 => (by have h := Day_any p m D (some ⟨g, 0, none⟩) cap w1 (hp.keep (k1.keeps (fun _ h => h))) (Ins.of_flat (L := D) (sp := sp) (h1 (g, cO ((D).flatMap inR ++ sp) 3) (List.mem_of_getElem? (i := 0) (by kernel_rfl)))) (by omega); rw [hDk, hdv, hde] at h; exact h)) ?_
          cases hd4 : (ue == 10) with
          | false =>
            have hp4 : ¬ ue = 10 := by simpa using hd4
            exfalso
            omega
          | true =>
            have hp4 : ue = 10 := by simpa using hd4
            cases hd5 : (ve == 10) with
            | false =>
              have hp5 : ¬ ve = 10 := by simpa using hd5
              exfalso
              omega
            | true =>
              have hp5 : ve = 10 := by simpa using hd5
              cases hd6 : (de == 10) with
              | false =>
                have hp6 : ¬ de = 10 := by simpa using hd6
                exfalso
                omega
              | true =>
                have hp6 : de = 10 := by simpa using hd6
                cases hd7 : (uv == 0) with
                | false =>
                  have hp7 : ¬ uv = 0 := by simpa using hd7
                  exfalso
                  omega
                | true =>
                  have hp7 : uv = 0 := by simpa using hd7
                  cases hd8 : (dv == 0) with
                  | false =>
                    have hp8 : ¬ dv = 0 := by simpa using hd8
                    exfalso
                    omega
                  | true =>
                    have hp8 : dv = 0 := by simpa using hd8
                    refine run_auto [(84, .bool true), (86, .bool true), (90, .bool true), (95, .bool true), (100, .bool true), (104, .bool true), (108, .bool true), (112, .bool true), (116, .bool true)] 49 [true] [] [4, 8, 9, 10, 11, 13, 14, 15, 16, 17, 20, 21, 118] [0, 1] (st' := ⟨[(4, pA b1), (8, .bool false), (9, iV m), (10, iV 0), (11, iV 0), (13, iV uv), (14, iV ue), (15, iV vv), (16, iV ve), (17, sV g k cap), (20, iV dv), (21, iV de), (118, .bool true)], [(g, cO ((D).flatMap inR ++ sp) 3), (b1, aO #[iV p.ll, iV p.lh, iV p.ul, iV p.uh, .slice p.ea p.es.length p.ec] 26)]⟩) (acc := [(.bool (dv == 0), .bool true), (.bool (uv == 0), .bool true), (.bool true, .bool true), (.bool true, .bool true), (.bool (de == 10), .bool true), (.bool (ve == 10), .bool true), (.bool (ue == 10), .bool true), (.bool true, .bool true), (.bool true, .bool true), (.bool true, .bool true)]) (by kernel_rfl) (by kernel_rfl) ⟨(bo hd8), (bo hd7), rfl, rfl, (bo hd6), (bo hd5), (bo hd4), rfl, rfl, rfl, trivial⟩ ?_
                    refine run_ret1 13 #[] (some 119) (.bool true) (by kernel_rfl) (fun w1 k1 h1 => awake_any w1) ?_
                    refine run_auto [] 3 [] [] [4, 8, 9, 10, 11, 13, 14, 15, 16, 17, 20, 21] [0, 1] (st' := ⟨[(4, pA b1), (8, .bool true), (9, iV m), (10, iV 0), (11, iV 0), (13, iV uv), (14, iV ue), (15, iV vv), (16, iV ve), (17, sV g k cap), (20, iV dv), (21, iV de)], [(g, cO ((D).flatMap inR ++ sp) 3), (b1, aO #[iV p.ll, iV p.lh, iV p.ul, iV p.uh, .slice p.ea p.es.length p.ec] 26)]⟩) (acc := []) (by kernel_rfl) (by kernel_rfl) trivial ?_
                    refine run_end (fn := f7) rfl (Nat.le_refl _) (by kernel_rfl) [] [.bool true] (e := []) (by kernel_rfl) trivial (fun w1 k1 h1 => ?_)
                    exact ⟨rfl, k1.keeps (fun _ h => h)⟩
        | true =>
          have hp3 := of_decide_eq_true hd3
          have hil : i < xs.length := by omega
          obtain ⟨bx, ox, hba, hcx⟩ := hB (by intro h; rw [h] at hil; cases hil)
          have hc := hcx i hil
          refine run_auto [(63, .bool true)] 12 [true] [] [4, 8, 9, 10, 11, 12, 13, 14, 15, 16, 17, 60, 61, 62, 64] [0, 1] (st' := ⟨[(4, pA b1), (8, .bool false), (9, iV m), (10, iV 0), (11, iV 0), (12, iV 10), (13, iV uv), (14, iV ue), (15, iV vv), (16, iV ve), (17, sV g k cap), (60, .slice sa xs.length sk), (61, iV (xs.length : Int)), (62, iV (i : Int)), (64, iV (i : Int))], [(g, cO ((Dl xs i).flatMap inR ++ sp) 3), (b1, aO #[iV p.ll, iV p.lh, iV p.ul, iV p.uh, .slice p.ea p.es.length p.ec] 26)]⟩) (acc := [(.bool true, .bool true), (.bool (decide ((i : Int) < (xs.length : Int))), .bool true)]) (by kernel_rfl) (by kernel_rfl) ⟨rfl, (bo hd3), trivial⟩ ?_
          refine run_v (Instr.indexAt 45 (.slice sa xs.length sk) (iV (i : Int)) >>= fun v => pure (Next.value v)) (some 65) (.pointer (some ⟨bx, ox + i, none⟩)) (by kernel_rfl) (fun w1 k1 h1 => (by rw [hba]; exact idx_off (e := 5) (n := 1) (by kernel_rfl) (by kernel_rfl) bx ox xs.length sk .i64 i hil (ox + i) (by omega) w1)) ?_
          refine run_v (Instr.loadAt 5 (.pointer (some ⟨bx, ox + i, none⟩)) >>= fun v => pure (Next.value v)) (some 66) (.int .u8 (elI xs i)) (by kernel_rfl) (fun w1 k1 h1 => load_in (off := 0) k1 (fun h => h) [.int .u8 (elI xs i)] (c1 hc.1) (by kernel_rfl)) ?_
          cases hd4 : (decide ((i : Int) < 10)) with
          | false =>
            have hp4 := of_decide_eq_false hd4
            refine run_auto [(68, .bool false), (75, iV ((i + 1 : Nat) : Int))] 15 [false] [] [4, 8, 9, 10, 11, 12, 13, 14, 15, 16, 17, 60, 61, 62] [0, 1] (st' := ⟨[(4, pA b1), (8, .bool false), (9, iV m), (10, iV 0), (11, iV 0), (12, iV 10), (13, iV uv), (14, iV ue), (15, iV vv), (16, iV ve), (17, sV g k cap), (60, .slice sa xs.length sk), (61, iV (xs.length : Int)), (62, iV ((i + 1 : Nat) : Int))], [(g, cO ((Dl xs i).flatMap inR ++ sp) 3), (b1, aO #[iV p.ll, iV p.lh, iV p.ul, iV p.uh, .slice p.ea p.es.length p.ec] 26)]⟩) (acc := [(iV (IntKind.i64.wrap ((i : Int) + 1)), iV ((i + 1 : Nat) : Int)), (.bool false, .bool false), (.bool (decide ((i : Int) < 10)), .bool false)]) (by kernel_rfl) (by kernel_rfl) ⟨(wr (by omega) (by omega)), rfl, (bo hd4), trivial⟩ ?_
            have hst := Dl_no (xs := xs) (i := i) (by omega)
            have hj := hJ0 ((i + 1, k, some (g, cap, sp))) (⟨by dsimp only; omega, by rw [hst]; exact hz2, hz4, hz5, hz6, by rw [hst]; exact hz7, hz8⟩) (by dsimp only; omega)
            dsimp only at hj
            rw [hst] at hj
            exact run_round (by kernel_rfl) hj
          | true =>
            have hp4 := of_decide_eq_true hd4
            refine run_auto [(68, .bool true), (71, iV (elI xs i)), (72, iV (elI xs i % 21))] 14 [true] [] [4, 8, 9, 10, 11, 12, 13, 14, 15, 16, 17, 60, 61, 62, 69, 72] [0, 1] (st' := ⟨[(4, pA b1), (8, .bool false), (9, iV m), (10, iV 0), (11, iV 0), (12, iV 10), (13, iV uv), (14, iV ue), (15, iV vv), (16, iV ve), (17, sV g k cap), (60, .slice sa xs.length sk), (61, iV (xs.length : Int)), (62, iV (i : Int)), (69, sV g k cap), (72, iV (elI xs i % 21))], [(g, cO ((Dl xs i).flatMap inR ++ sp) 3), (b1, aO #[iV p.ll, iV p.lh, iV p.ul, iV p.uh, .slice p.ea p.es.length p.ec] 26)]⟩) (acc := [(iV (Int.tmod (elI xs i) 21), iV (elI xs i % 21)), (iV (IntKind.i64.wrap (elI xs i)), iV (elI xs i)), (.bool true, .bool true), (.bool (decide ((i : Int) < 10)), .bool true)]) (by kernel_rfl) (by kernel_rfl) ⟨(rm 21 (by omega)), (wr (by omega) (by omega)), rfl, (bo hd4), trivial⟩ ?_
            refine run_new (aO #[iV (elI xs i % 21)] 3) (fun b2 => sV b2 1 1) (some 73) (fun _ => by kernel_rfl) (fun b2 hb2 => ?_)
            refine run_app (t := 38) (ty := 38) (e := 3) (n := 1) (z := (iV 0)) (by kernel_rfl) (by kernel_rfl) (by kernel_rfl) rfl (by kernel_rfl) inR inR_len inR_one (some 74) 1 g k 1 cap 1 (Dl xs i) ([(elI xs i % 21)] : List Int) sp ⟨b2, 0, none⟩ (by first | rfl | omega | (simp; done) | (simp; omega)) (by first | rfl | omega | (simp; done) | (simp; omega)) (by kernel_rfl) (by kernel_rfl) hz6 hz7 (fun w1 k1 h1 jq uq hu => by rw [add_none, Nat.zero_add]; exact cells_of_heap (h1 (b2, aO #[iV (elI xs i % 21)] 3) (List.mem_of_getElem? (i := 0) (by kernel_rfl))) jq uq hu) (by omega) hz8 (fun b3 cap3 sp3 hb3 hqb3 hmb3 hlb3 => ?_)
            refine run_auto [(75, iV ((i + 1 : Nat) : Int))] 7 [] [] [4, 8, 9, 10, 11, 12, 13, 14, 15, 16, 17, 60, 61, 62] [0, 2] (st' := ⟨[(4, pA b1), (8, .bool false), (9, iV m), (10, iV 0), (11, iV 0), (12, iV 10), (13, iV uv), (14, iV ue), (15, iV vv), (16, iV ve), (17, sV b3 (k + 1) cap3), (60, .slice sa xs.length sk), (61, iV (xs.length : Int)), (62, iV ((i + 1 : Nat) : Int))], [(b3, cO ((Dl xs i ++ ([(elI xs i % 21)] : List Int)).flatMap inR ++ sp3) 3), (b1, aO #[iV p.ll, iV p.lh, iV p.ul, iV p.uh, .slice p.ea p.es.length p.ec] 26)]⟩) (acc := [(iV (IntKind.i64.wrap ((i : Int) + 1)), iV ((i + 1 : Nat) : Int))]) (by kernel_rfl) (by kernel_rfl) ⟨(wr (by omega) (by omega)), trivial⟩ ?_
            have hst := Dl_yes hil (show i < 10 by omega)
            have hj := hJ0 ((i + 1, k + 1, some (b3, cap3, sp3))) (⟨by dsimp only; omega, by rw [hst]; rw [List.length_append, hz2]; rfl, by dsimp only; omega, hqb3, hmb3, by rw [hst]; exact hlb3, hb3⟩) (by dsimp only; omega)
            dsimp only at hj
            rw [hst] at hj
            exact run_round (by kernel_rfl) hj
    | true =>
      have hcan := hd2
      have hU := until_is hF hcan hm1 huv hue
      have hV := until_more hF hcan hm1 hm2 (by omega) huv hue hvv hve
      have hKb := mC_bd hF (Nat.le_refl p.es.length)
      unfold bdS at hKb
      have hKp := mC_poss hF hcan (Nat.le_refl p.es.length)
      refine run_ret1 18 #[.agg #[iV p.ll, iV p.lh, iV p.ul, iV p.uh, .slice p.ea p.es.length p.ec], iV m] (some 40) (.tuple #[iV ((belS p.n m p.es.length : Nat) : Int), iV ((belP p.n m p.es.length : Nat) : Int), iV 0]) (by kernel_rfl) (fun w1 k1 h1 => (by have h := Below_any p m w1 (hp.keep (k1.keeps (fun _ h => h))); rw [show belowR p m = .inr (((belS p.n m p.es.length : Nat) : Int), ((belP p.n m p.es.length : Nat) : Int)) from by unfold belowR; rw [hok, hm1, hd2]; rfl] at h; exact h)) ?_
      refine run_auto [] 12 [] [0] [2, 3, 4, 8, 9, 10, 11, 12, 45, 46] [0] (st' := ⟨[(2, .slice sa xs.length sk), (3, .int .u8 z), (4, pA b1), (8, .bool false), (9, iV m), (10, iV ((belS p.n m p.es.length : Nat) : Int)), (11, iV ((belP p.n m p.es.length : Nat) : Int)), (12, iV 0), (45, .agg #[iV p.ll, iV p.lh, iV p.ul, iV p.uh, .slice p.ea p.es.length p.ec]), (46, iV m)], [(b1, aO #[iV p.ll, iV p.lh, iV p.ul, iV p.uh, .slice p.ea p.es.length p.ec] 26)]⟩) (acc := [(pA b1, pA b1)]) (by kernel_rfl) (by kernel_rfl) ⟨rfl, trivial⟩ ?_
      refine run_ret1 22 #[.agg #[iV p.ll, iV p.lh, iV p.ul, iV p.uh, .slice p.ea p.es.length p.ec], iV m] (some 47) (.tuple #[iV uv, iV ue]) (by kernel_rfl) (fun w1 k1 h1 => (by have h := Until_any p m w1 (hp.keep (k1.keeps (fun _ h => h))); rw [huv, hue] at h; exact h)) ?_
      refine run_auto [(54, iV z), (55, iV d), (56, iV (m - d))] 14 [] [0] [2, 4, 8, 9, 10, 11, 12, 13, 14, 51, 56] [0] (st' := ⟨[(2, .slice sa xs.length sk), (4, pA b1), (8, .bool false), (9, iV m), (10, iV ((belS p.n m p.es.length : Nat) : Int)), (11, iV ((belP p.n m p.es.length : Nat) : Int)), (12, iV 0), (13, iV uv), (14, iV ue), (51, .agg #[iV p.ll, iV p.lh, iV p.ul, iV p.uh, .slice p.ea p.es.length p.ec]), (56, iV (m - d))], [(b1, aO #[iV p.ll, iV p.lh, iV p.ul, iV p.uh, .slice p.ea p.es.length p.ec] 26)]⟩) (acc := [(iV (IntKind.i64.wrap (m - d)), iV (m - d)), (iV (Int.tmod z 50), iV d), (iV (IntKind.i64.wrap z), iV z), (pA b1, pA b1)]) (by kernel_rfl) (by kernel_rfl) ⟨(wr (by omega) (by omega)), ((rm 50 (by omega)).trans (io hd)), (wr (by omega) (by omega)), rfl, trivial⟩ ?_
      refine run_ret1 22 #[.agg #[iV p.ll, iV p.lh, iV p.ul, iV p.uh, .slice p.ea p.es.length p.ec], iV (m - d)] (some 57) (.tuple #[iV vv, iV ve]) (by kernel_rfl) (fun w1 k1 h1 => (by have h := Until_any p (m - d) w1 (hp.keep (k1.keeps (fun _ h => h))); rw [hvv, hve] at h; exact h)) ?_
      refine run_auto [] 18 [] [] [4, 8, 9, 10, 11, 12, 13, 14, 15, 16, 17, 60, 61, 62] [0] (st' := ⟨[(4, pA b1), (8, .bool false), (9, iV m), (10, iV ((belS p.n m p.es.length : Nat) : Int)), (11, iV ((belP p.n m p.es.length : Nat) : Int)), (12, iV 0), (13, iV uv), (14, iV ue), (15, iV vv), (16, iV ve), (17, .slice none 0 0), (60, .slice sa xs.length sk), (61, iV (xs.length : Int)), (62, iV 0)], [(b1, aO #[iV p.ll, iV p.lh, iV p.ul, iV p.uh, .slice p.ea p.es.length p.ec] 26)]⟩) (acc := []) (by kernel_rfl) (by kernel_rfl) trivial ?_
      refine run_auto [] 0 [] [] [4, 8, 9, 10, 11, 12, 13, 14, 15, 16, 17, 60, 61, 62] [0] (st' := ⟨[(4, pA b1), (8, .bool false), (9, iV m), (10, iV ((belS p.n m p.es.length : Nat) : Int)), (11, iV ((belP p.n m p.es.length : Nat) : Int)), (12, iV 0), (13, iV uv), (14, iV ue), (15, iV vv), (16, iV ve), (17, .slice none 0 0), (60, .slice sa xs.length sk), (61, iV (xs.length : Int)), (62, iV 0)], [(b1, aO #[iV p.ll, iV p.lh, iV p.ul, iV p.uh, .slice p.ea p.es.length p.ec] 26)]⟩) (acc := []) (by kernel_rfl) (by kernel_rfl) trivial ?_
      refine run_loop (S := fun (v : Nat × Nat × Option (Nat × Nat × List Value)) => match v with | (i, _, none) => ⟨[(4, pA b1), (8, .bool false), (9, iV m), (10, iV ((belS p.n m p.es.length : Nat) : Int)), (11, iV ((belP p.n m p.es.length : Nat) : Int)), (12, iV 0), (13, iV uv), (14, iV ue), (15, iV vv), (16, iV ve), (17, .slice none 0 0), (60, .slice sa xs.length sk), (61, iV (xs.length : Int)), (62, iV (i : Int))], [(b1, aO #[iV p.ll, iV p.lh, iV p.ul, iV p.uh, .slice p.ea p.es.length p.ec] 26)]⟩ | (i, k, some (g, cap, sp)) => ⟨[(4, pA b1), (8, .bool false), (9, iV m), (10, iV ((belS p.n m p.es.length : Nat) : Int)), (11, iV ((belP p.n m p.es.length : Nat) : Int)), (12, iV 0), (13, iV uv), (14, iV ue), (15, iV vv), (16, iV ve), (17, sV g k cap), (60, .slice sa xs.length sk), (61, iV (xs.length : Int)), (62, iV (i : Int))], [(g, cO ((Dl xs i).flatMap inR ++ sp) 3), (b1, aO #[iV p.ll, iV p.lh, iV p.ul, iV p.uh, .slice p.ea p.es.length p.ec] 26)]⟩) (fun v => v.1 ≤ xs.length ∧ (Dl xs v.1).length = v.2.1 ∧ match v.2.2 with | none => v.2.1 = 0 | some (g, cap, sp) => 1 ≤ v.2.1 ∧ v.2.1 ≤ cap ∧ cap ≤ maxLen ∧ ((Dl xs v.1).flatMap inR ++ sp).length = cap * 1 ∧ w.heap.size ≤ g) (fun v => xs.length - v.1) ((0, 0, none)) (by kernel_rfl) (⟨Nat.zero_le _, rfl, rfl⟩) (by simp) (fun v hI0 J0 hJ0 => ?_)
      obtain ⟨i, k, _ | ⟨g, cap, sp⟩⟩ := v
      · skip
        obtain ⟨hz1, hz2, hz3⟩ := hI0
        dsimp only at hz1 hz2 hz3
        have hzl := Dl_len xs i hz1
        have hml : (1000000 : Nat) ≤ maxLen := by simp only [maxLen]; omega
        have hxl2 : xs.length ≤ 2 ^ 63 - 1 := by have h := hxl; simp only [maxLen] at h; exact h
        cases hd3 : (decide ((i : Int) < (xs.length : Int))) with
        | false =>
          have hp3 := of_decide_eq_false hd3
          have hD : Dl xs i = D := by rw [show i = xs.length by omega]; exact hDe
          rw [hD] at hz2
          have hDk := hz2
          have hDn : D = [] := List.eq_nil_of_length_eq_zero (by rw [hz2, hz3])
          have hY := day_is hF hcan hD10 hDv hm1 hdv hde
          refine run_auto [(63, .bool false)] 12 [false] [0] [4, 8, 9, 10, 11, 12, 13, 14, 15, 16, 17, 77, 78, 79] [0] (st' := ⟨[(4, pA b1), (8, .bool false), (9, iV m), (10, iV ((belS p.n m p.es.length : Nat) : Int)), (11, iV ((belP p.n m p.es.length : Nat) : Int)), (12, iV 0), (13, iV uv), (14, iV ue), (15, iV vv), (16, iV ve), (17, .slice none 0 0), (77, .agg #[iV p.ll, iV p.lh, iV p.ul, iV p.uh, .slice p.ea p.es.length p.ec]), (78, iV m), (79, .slice none 0 0)], [(b1, aO #[iV p.ll, iV p.lh, iV p.ul, iV p.uh, .slice p.ea p.es.length p.ec] 26)]⟩) (acc := [(pA b1, pA b1), (.bool false, .bool false), (.bool (decide ((i : Int) < (xs.length : Int))), .bool false)]) (by kernel_rfl) (by kernel_rfl) ⟨rfl, rfl, (bo hd3), trivial⟩ ?_
          refine run_ret1 24 #[.agg #[iV p.ll, iV p.lh, iV p.ul, iV p.uh, .slice p.ea p.es.length p.ec], iV m, .slice none 0 0] (some 80) (.tuple #[iV dv, iV de]) (by kernel_rfl) (fun w1 k1 h1 => (by have h := Day_any p m [] none 0 w1 (hp.keep (k1.keeps (fun _ h => h))) Ins.nil (Nat.zero_le _); rw [show dayR p m [] = dayR p m D by rw [hDn], hdv, hde] at h; exact h)) ?_
          refine run_auto [(84, .bool false)] 18 [false] [0] [4, 8, 9, 10, 11, 13, 14, 15, 16, 17, 20, 21, 122] [0] (st' := ⟨[(4, pA b1), (8, .bool false), (9, iV m), (10, iV ((belS p.n m p.es.length : Nat) : Int)), (11, iV ((belP p.n m p.es.length : Nat) : Int)), (13, iV uv), (14, iV ue), (15, iV vv), (16, iV ve), (17, .slice none 0 0), (20, iV dv), (21, iV de), (122, .agg #[iV p.ll, iV p.lh])], [(b1, aO #[iV p.ll, iV p.lh, iV p.ul, iV p.uh, .slice p.ea p.es.length p.ec] 26)]⟩) (acc := [(pA b1, pA b1), (.bool false, .bool false), (.bool false, .bool false)]) (by kernel_rfl) (by kernel_rfl) ⟨rfl, rfl, rfl, trivial⟩ ?_
          refine run_new (aO #[iV 0, iV 0] 23) (fun b2 => pA b2) (some 22) (fun _ => by kernel_rfl) (fun b2 hb2 => ?_)
          refine run_auto [] 11 [] [0, 1] [4, 8, 9, 10, 11, 13, 14, 15, 16, 17, 20, 21, 22, 125, 126] [0, 1] (st' := ⟨[(4, pA b1), (8, .bool false), (9, iV m), (10, iV ((belS p.n m p.es.length : Nat) : Int)), (11, iV ((belP p.n m p.es.length : Nat) : Int)), (13, iV uv), (14, iV ue), (15, iV vv), (16, iV ve), (17, .slice none 0 0), (20, iV dv), (21, iV de), (22, pA b2), (125, iV (p.es.length : Int)), (126, iV 0)], [(b2, aO #[iV p.ll, iV p.lh] 23), (b1, aO #[iV p.ll, iV p.lh, iV p.ul, iV p.uh, .slice p.ea p.es.length p.ec] 26)]⟩) (acc := [(pA b1, pA b1), (pA b2, pA b2)]) (by kernel_rfl) (by kernel_rfl) ⟨rfl, rfl, trivial⟩ ?_
          refine run_auto [] 0 [] [] [4, 8, 9, 10, 11, 13, 14, 15, 16, 17, 20, 21, 22, 125, 126] [0, 1] (st' := ⟨[(4, pA b1), (8, .bool false), (9, iV m), (10, iV ((belS p.n m p.es.length : Nat) : Int)), (11, iV ((belP p.n m p.es.length : Nat) : Int)), (13, iV uv), (14, iV ue), (15, iV vv), (16, iV ve), (17, .slice none 0 0), (20, iV dv), (21, iV de), (22, pA b2), (125, iV (p.es.length : Int)), (126, iV 0)], [(b2, aO #[iV p.ll, iV p.lh] 23), (b1, aO #[iV p.ll, iV p.lh, iV p.ul, iV p.uh, .slice p.ea p.es.length p.ec] 26)]⟩) (acc := []) (by kernel_rfl) (by kernel_rfl) trivial ?_
          refine run_loop (S := fun (q : Nat) => ⟨[(4, pA b1), (8, .bool false), (9, iV m), (10, iV ((belS p.n m p.es.length : Nat) : Int)), (11, iV ((belP p.n m p.es.length : Nat) : Int)), (13, iV uv), (14, iV ue), (15, iV vv), (16, iV ve), (17, .slice none 0 0), (20, iV dv), (21, iV de), (22, pA b2), (125, iV (p.es.length : Int)), (126, iV (q : Int))], [(b2, aO #[iV (lstS p q).1, iV (lstS p q).2] 23), (b1, aO #[iV p.ll, iV p.lh, iV p.ul, iV p.uh, .slice p.ea p.es.length p.ec] 26)]⟩) (fun q => q ≤ p.es.length) (fun q => p.es.length - q) (0) (by kernel_rfl) (Nat.zero_le _) (by simp [lstS]) (fun q hI1 J1 hJ1 => ?_)
          cases hd4 : (decide ((q : Int) < (p.es.length : Int))) with
          | false =>
            have hp4 := of_decide_eq_false hd4
            have hq : q = p.es.length := by omega
            rw [show lstS p q = mC p.n p.es.length by rw [hq]; exact lst_all p]
            cases hd5 : (ue == 0) with
            | false =>
              have hp5 : ¬ ue = 0 := by simpa using hd5
              cases hd6 : (decide (m ≤ (mC p.n p.es.length).1)) with
              | false =>
                have hp6 := of_decide_eq_false hd6
                cases hd7 : (ue != 0) with
                | false =>
                  have hp7 : ue = 0 := by simpa using hd7
                  exfalso
                  omega
                | true =>
                  have hp7 : ¬ ue = 0 := by simpa using hd7
                  cases hd8 : (ue != 4) with
                  | false =>
                    have hp8 : ue = 4 := by simpa using hd8
                    cases hd9 : (uv != 0) with
                    | false =>
                      have hp9 : uv = 0 := by simpa using hd9
                      refine run_auto [(127, .bool false), (164, .bool false), (168, .bool false), (169, .bool false), (172, .bool true), (175, .bool false), (178, .bool false), (184, .bool false), (196, .bool false)] 104 [false, false, false] [0, 0] [4, 8, 9, 20, 21, 26, 236, 237, 238] [1] (st' := ⟨[(4, pA b1), (8, .bool false), (9, iV m), (20, iV dv), (21, iV de), (26, iV (mC p.n p.es.length).1), (236, .slice none 0 0), (237, iV 0), (238, iV 0)], [(b1, aO #[iV p.ll, iV p.lh, iV p.ul, iV p.uh, .slice p.ea p.es.length p.ec] 26)]⟩) (acc := [(pA b2, pA b2), (.bool false, .bool false), (.bool (ue == 0), .bool false), (.bool false, .bool false), (.bool (ue == 0), .bool false), (.bool (uv != 0), .bool false), (.bool (ue != 4), .bool false), (.bool (ue != 0), .bool true), (.bool false, .bool false), (.bool (decide (m ≤ (mC p.n p.es.length).1)), .bool false), (pA b2, pA b2), (.bool (ue == 0), .bool false), (.bool false, .bool false), (.bool (decide ((q : Int) < (p.es.length : Int))), .bool false)]) (by kernel_rfl) (by kernel_rfl) ⟨rfl, rfl, (bo hd5), rfl, (bo hd5), (bo hd9), (bo hd8), (bo hd7), rfl, (bo hd6), rfl, (bo hd5), rfl, (bo hd4), trivial⟩ ?_
                      refine run_auto [] 0 [] [] [4, 8, 9, 20, 21, 26, 236, 237, 238] [0] (st' := ⟨[(4, pA b1), (8, .bool false), (9, iV m), (20, iV dv), (21, iV de), (26, iV (mC p.n p.es.length).1), (236, .slice none 0 0), (237, iV 0), (238, iV 0)], [(b1, aO #[iV p.ll, iV p.lh, iV p.ul, iV p.uh, .slice p.ea p.es.length p.ec] 26)]⟩) (acc := []) (by kernel_rfl) (by kernel_rfl) trivial ?_
                      refine run_loop (S := fun (j : Nat) => ⟨[(4, pA b1), (8, .bool false), (9, iV m), (20, iV dv), (21, iV de), (26, iV (nowS p D j)), (236, .slice none 0 0), (237, iV 0), (238, iV (j : Int))], [(b1, aO #[iV p.ll, iV p.lh, iV p.ul, iV p.uh, .slice p.ea p.es.length p.ec] 26)]⟩) (fun j => j ≤ 0 ∧ ∀ q, q < j → m ≤ nowS p D (q + 1)) (fun j => 0 - j) (0) (by kernel_rfl) (⟨Nat.zero_le _, fun q h => by cases h⟩) (by simp [now_zero]) (fun j hI2 J2 hJ2 => ?_)
                      obtain ⟨hj1, hj2⟩ := hI2
                      have hnb := now_bd hF hD10 hDv (i := j) (by omega)
                      cases hd10 : (decide ((j : Int) < 0)) with
                      | false =>
                        have hp10 := of_decide_eq_false hd10
                        have hdone := hY.done (fun q hq => hj2 q (by omega))
                        cases hd11 : (de == 4) with
                        | false =>
                          have hp11 : ¬ de = 4 := by simpa using hd11
                          exfalso
                          omega
                        | true =>
                          have hp11 : de = 4 := by simpa using hd11
                          cases hd12 : (dv == 0) with
                          | false =>
                            have hp12 : ¬ dv = 0 := by simpa using hd12
                            exfalso
                            omega
                          | true =>
                            have hp12 : dv = 0 := by simpa using hd12
                            refine run_auto [(239, .bool false), (265, .bool true), (268, .bool true)] 16 [false] [] [8, 270] [] (st' := ⟨[(8, .bool false), (270, .bool true)], []⟩) (acc := [(.bool (dv == 0), .bool true), (.bool (de == 4), .bool true), (.bool false, .bool false), (.bool (decide ((j : Int) < 0)), .bool false)]) (by kernel_rfl) (by kernel_rfl) ⟨(bo hd12), (bo hd11), rfl, (bo hd10), trivial⟩ ?_
                            refine run_ret1 13 #[] (some 271) (.bool true) (by kernel_rfl) (fun w1 k1 h1 => awake_any w1) ?_
                            refine run_auto [] 3 [] [] [8] [] (st' := ⟨[(8, .bool true)], []⟩) (acc := []) (by kernel_rfl) (by kernel_rfl) trivial ?_
                            refine run_end (fn := f7) rfl (Nat.le_refl _) (by kernel_rfl) [] [.bool true] (e := []) (by kernel_rfl) trivial (fun w1 k1 h1 => ?_)
                            exact ⟨rfl, k1.keeps (fun _ h => h)⟩
                      | true =>
                        have hp10 := of_decide_eq_true hd10
                        exfalso
                        omega
                    | true =>
                      have hp9 : ¬ uv = 0 := by simpa using hd9
                      exfalso
                      omega
                  | true =>
                    have hp8 : ¬ ue = 4 := by simpa using hd8
                    exfalso
                    omega
              | true =>
                have hp6 := of_decide_eq_true hd6
                exfalso
                omega
            | true =>
              have hp5 : ue = 0 := by simpa using hd5
              cases hd6 : (decide (m ≤ (mC p.n p.es.length).1)) with
              | false =>
                have hp6 := of_decide_eq_false hd6
                exfalso
                omega
              | true =>
                have hp6 := of_decide_eq_true hd6
                cases hd7 : (ue != 0) with
                | false =>
                  have hp7 : ue = 0 := by simpa using hd7
                  cases hd8 : (ve != 0) with
                  | false =>
                    have hp8 : ve = 0 := by simpa using hd8
                    cases hd9 : (decide (vv < uv)) with
                    | false =>
                      have hp9 := of_decide_eq_false hd9
                      cases hd10 : (decide (uv < 0)) with
                      | false =>
                        have hp10 := of_decide_eq_false hd10
                        cases hd11 : (decide (100 < uv)) with
                        | false =>
                          have hp11 := of_decide_eq_false hd11
                          cases hd12 : (decide (((mC p.n p.es.length).1 - (uv * p.uh)) < m)) with
                          | false =>
                            have hp12 := of_decide_eq_false hd12
                            cases hd13 : (decide (uv < 100)) with
                            | false =>
                              have hp13 := of_decide_eq_false hd13
                              refine run_auto [(127, .bool false), (164, .bool true), (168, .bool true), (169, .bool false), (172, .bool false), (184, .bool true), (187, .bool false), (191, .bool false), (196, .bool true), (199, .bool false), (202, .bool false), (211, iV (uv * p.uh)), (212, iV ((mC p.n p.es.length).1 - (uv * p.uh))), (214, .bool false), (218, .bool false)] 104 [false, false, false] [0, 0, 1, 0] [4, 8, 9, 20, 21, 26, 236, 237, 238] [1] (st' := ⟨[(4, pA b1), (8, .bool false), (9, iV m), (20, iV dv), (21, iV de), (26, iV (mC p.n p.es.length).1), (236, .slice none 0 0), (237, iV 0), (238, iV 0)], [(b1, aO #[iV p.ll, iV p.lh, iV p.ul, iV p.uh, .slice p.ea p.es.length p.ec] 26)]⟩) (acc := [(pA b2, pA b2), (.bool false, .bool false), (.bool (decide (uv < 100)), .bool false), (.bool (decide (((mC p.n p.es.length).1 - (uv * p.uh)) < m)), .bool false), (iV (IntKind.i64.wrap ((mC p.n p.es.length).1 - (uv * p.uh))), iV ((mC p.n p.es.length).1 - (uv * p.uh))), (iV (IntKind.i64.wrap (uv * p.uh)), iV (uv * p.uh)), (pA b1, pA b1), (pA b2, pA b2), (.bool (decide (100 < uv)), .bool false), (.bool (decide (uv < 0)), .bool false), (.bool (ue == 0), .bool true), (.bool false, .bool false), (.bool (decide (vv < uv)), .bool false), (.bool (ve != 0), .bool false), (.bool (ue == 0), .bool true), (.bool (ue != 0), .bool false), (.bool false, .bool false), (.bool (decide (m ≤ (mC p.n p.es.length).1)), .bool true), (pA b2, pA b2), (.bool (ue == 0), .bool true), (.bool false, .bool false), (.bool (decide ((q : Int) < (p.es.length : Int))), .bool false)]) (by kernel_rfl) (by kernel_rfl) ⟨rfl, rfl, (bo hd13), (bo hd12), (wr (by omega) (by omega)), (wr (by omega) (by omega)), rfl, rfl, (bo hd11), (bo hd10), (bo hd5), rfl, (bo hd9), (bo hd8), (bo hd5), (bo hd7), rfl, (bo hd6), rfl, (bo hd5), rfl, (bo hd4), trivial⟩ ?_
                              refine run_auto [] 0 [] [] [4, 8, 9, 20, 21, 26, 236, 237, 238] [0] (st' := ⟨[(4, pA b1), (8, .bool false), (9, iV m), (20, iV dv), (21, iV de), (26, iV (mC p.n p.es.length).1), (236, .slice none 0 0), (237, iV 0), (238, iV 0)], [(b1, aO #[iV p.ll, iV p.lh, iV p.ul, iV p.uh, .slice p.ea p.es.length p.ec] 26)]⟩) (acc := []) (by kernel_rfl) (by kernel_rfl) trivial ?_
                              refine run_loop (S := fun (j : Nat) => ⟨[(4, pA b1), (8, .bool false), (9, iV m), (20, iV dv), (21, iV de), (26, iV (nowS p D j)), (236, .slice none 0 0), (237, iV 0), (238, iV (j : Int))], [(b1, aO #[iV p.ll, iV p.lh, iV p.ul, iV p.uh, .slice p.ea p.es.length p.ec] 26)]⟩) (fun j => j ≤ 0 ∧ ∀ q, q < j → m ≤ nowS p D (q + 1)) (fun j => 0 - j) (0) (by kernel_rfl) (⟨Nat.zero_le _, fun q h => by cases h⟩) (by simp [now_zero]) (fun j hI2 J2 hJ2 => ?_)
                              obtain ⟨hj1, hj2⟩ := hI2
                              have hnb := now_bd hF hD10 hDv (i := j) (by omega)
                              cases hd14 : (decide ((j : Int) < 0)) with
                              | false =>
                                have hp14 := of_decide_eq_false hd14
                                have hdone := hY.done (fun q hq => hj2 q (by omega))
                                cases hd15 : (de == 4) with
                                | false =>
                                  have hp15 : ¬ de = 4 := by simpa using hd15
                                  exfalso
                                  omega
                                | true =>
                                  have hp15 : de = 4 := by simpa using hd15
                                  cases hd16 : (dv == 0) with
                                  | false =>
                                    have hp16 : ¬ dv = 0 := by simpa using hd16
                                    exfalso
                                    omega
                                  | true =>
                                    have hp16 : dv = 0 := by simpa using hd16
                                    refine run_auto [(239, .bool false), (265, .bool true), (268, .bool true)] 16 [false] [] [8, 270] [] (st' := ⟨[(8, .bool false), (270, .bool true)], []⟩) (acc := [(.bool (dv == 0), .bool true), (.bool (de == 4), .bool true), (.bool false, .bool false), (.bool (decide ((j : Int) < 0)), .bool false)]) (by kernel_rfl) (by kernel_rfl) ⟨(bo hd16), (bo hd15), rfl, (bo hd14), trivial⟩ ?_
                                    refine run_ret1 13 #[] (some 271) (.bool true) (by kernel_rfl) (fun w1 k1 h1 => awake_any w1) ?_
                                    refine run_auto [] 3 [] [] [8] [] (st' := ⟨[(8, .bool true)], []⟩) (acc := []) (by kernel_rfl) (by kernel_rfl) trivial ?_
                                    refine run_end (fn := f7) rfl (Nat.le_refl _) (by kernel_rfl) [] [.bool true] (e := []) (by kernel_rfl) trivial (fun w1 k1 h1 => ?_)
                                    exact ⟨rfl, k1.keeps (fun _ h => h)⟩
                              | true =>
                                have hp14 := of_decide_eq_true hd14
                                exfalso
                                omega
                            | true =>
                              have hp13 := of_decide_eq_true hd13
                              cases hd14 : (decide (m ≤ ((mC p.n p.es.length).1 - ((uv + 1) * p.uh)))) with
                              | false =>
                                have hp14 := of_decide_eq_false hd14
                                refine run_auto [(127, .bool false), (164, .bool true), (168, .bool true), (169, .bool false), (172, .bool false), (184, .bool true), (187, .bool false), (191, .bool false), (196, .bool true), (199, .bool false), (202, .bool false), (211, iV (uv * p.uh)), (212, iV ((mC p.n p.es.length).1 - (uv * p.uh))), (214, .bool false), (218, .bool true), (223, iV (uv + 1)), (227, iV ((uv + 1) * p.uh)), (228, iV ((mC p.n p.es.length).1 - ((uv + 1) * p.uh))), (230, .bool false)] 104 [false, false, false] [0, 0, 1, 0, 1, 0] [4, 8, 9, 20, 21, 26, 236, 237, 238] [1] (st' := ⟨[(4, pA b1), (8, .bool false), (9, iV m), (20, iV dv), (21, iV de), (26, iV (mC p.n p.es.length).1), (236, .slice none 0 0), (237, iV 0), (238, iV 0)], [(b1, aO #[iV p.ll, iV p.lh, iV p.ul, iV p.uh, .slice p.ea p.es.length p.ec] 26)]⟩) (acc := [(pA b2, pA b2), (.bool false, .bool false), (.bool (decide (m ≤ ((mC p.n p.es.length).1 - ((uv + 1) * p.uh)))), .bool false), (iV (IntKind.i64.wrap ((mC p.n p.es.length).1 - ((uv + 1) * p.uh))), iV ((mC p.n p.es.length).1 - ((uv + 1) * p.uh))), (iV (IntKind.i64.wrap ((uv + 1) * p.uh)), iV ((uv + 1) * p.uh)), (pA b1, pA b1), (iV (IntKind.i64.wrap (uv + 1)), iV (uv + 1)), (pA b2, pA b2), (.bool (decide (uv < 100)), .bool true), (.bool (decide (((mC p.n p.es.length).1 - (uv * p.uh)) < m)), .bool false), (iV (IntKind.i64.wrap ((mC p.n p.es.length).1 - (uv * p.uh))), iV ((mC p.n p.es.length).1 - (uv * p.uh))), (iV (IntKind.i64.wrap (uv * p.uh)), iV (uv * p.uh)), (pA b1, pA b1), (pA b2, pA b2), (.bool (decide (100 < uv)), .bool false), (.bool (decide (uv < 0)), .bool false), (.bool (ue == 0), .bool true), (.bool false, .bool false), (.bool (decide (vv < uv)), .bool false), (.bool (ve != 0), .bool false), (.bool (ue == 0), .bool true), (.bool (ue != 0), .bool false), (.bool false, .bool false), (.bool (decide (m ≤ (mC p.n p.es.length).1)), .bool true), (pA b2, pA b2), (.bool (ue == 0), .bool true), (.bool false, .bool false), (.bool (decide ((q : Int) < (p.es.length : Int))), .bool false)]) (by kernel_rfl) (by kernel_rfl) ⟨rfl, rfl, (bo hd14), (wr (by omega) (by omega)), (wr (by omega) (by omega)), rfl, (wr (by omega) (by omega)), rfl, (bo hd13), (bo hd12), (wr (by omega) (by omega)), (wr (by omega) (by omega)), rfl, rfl, (bo hd11), (bo hd10), (bo hd5), rfl, (bo hd9), (bo hd8), (bo hd5), (bo hd7), rfl, (bo hd6), rfl, (bo hd5), rfl, (bo hd4), trivial⟩ ?_
                                refine run_auto [] 0 [] [] [4, 8, 9, 20, 21, 26, 236, 237, 238] [0] (st' := ⟨[(4, pA b1), (8, .bool false), (9, iV m), (20, iV dv), (21, iV de), (26, iV (mC p.n p.es.length).1), (236, .slice none 0 0), (237, iV 0), (238, iV 0)], [(b1, aO #[iV p.ll, iV p.lh, iV p.ul, iV p.uh, .slice p.ea p.es.length p.ec] 26)]⟩) (acc := []) (by kernel_rfl) (by kernel_rfl) trivial ?_
                                refine run_loop (S := fun (j : Nat) => ⟨[(4, pA b1), (8, .bool false), (9, iV m), (20, iV dv), (21, iV de), (26, iV (nowS p D j)), (236, .slice none 0 0), (237, iV 0), (238, iV (j : Int))], [(b1, aO #[iV p.ll, iV p.lh, iV p.ul, iV p.uh, .slice p.ea p.es.length p.ec] 26)]⟩) (fun j => j ≤ 0 ∧ ∀ q, q < j → m ≤ nowS p D (q + 1)) (fun j => 0 - j) (0) (by kernel_rfl) (⟨Nat.zero_le _, fun q h => by cases h⟩) (by simp [now_zero]) (fun j hI2 J2 hJ2 => ?_)
                                obtain ⟨hj1, hj2⟩ := hI2
                                have hnb := now_bd hF hD10 hDv (i := j) (by omega)
                                cases hd15 : (decide ((j : Int) < 0)) with
                                | false =>
                                  have hp15 := of_decide_eq_false hd15
                                  have hdone := hY.done (fun q hq => hj2 q (by omega))
                                  cases hd16 : (de == 4) with
                                  | false =>
                                    have hp16 : ¬ de = 4 := by simpa using hd16
                                    exfalso
                                    omega
                                  | true =>
                                    have hp16 : de = 4 := by simpa using hd16
                                    cases hd17 : (dv == 0) with
                                    | false =>
                                      have hp17 : ¬ dv = 0 := by simpa using hd17
                                      exfalso
                                      omega
                                    | true =>
                                      have hp17 : dv = 0 := by simpa using hd17
                                      refine run_auto [(239, .bool false), (265, .bool true), (268, .bool true)] 16 [false] [] [8, 270] [] (st' := ⟨[(8, .bool false), (270, .bool true)], []⟩) (acc := [(.bool (dv == 0), .bool true), (.bool (de == 4), .bool true), (.bool false, .bool false), (.bool (decide ((j : Int) < 0)), .bool false)]) (by kernel_rfl) (by kernel_rfl) ⟨(bo hd17), (bo hd16), rfl, (bo hd15), trivial⟩ ?_
                                      refine run_ret1 13 #[] (some 271) (.bool true) (by kernel_rfl) (fun w1 k1 h1 => awake_any w1) ?_
                                      refine run_auto [] 3 [] [] [8] [] (st' := ⟨[(8, .bool true)], []⟩) (acc := []) (by kernel_rfl) (by kernel_rfl) trivial ?_
                                      refine run_end (fn := f7) rfl (Nat.le_refl _) (by kernel_rfl) [] [.bool true] (e := []) (by kernel_rfl) trivial (fun w1 k1 h1 => ?_)
                                      exact ⟨rfl, k1.keeps (fun _ h => h)⟩
                                | true =>
                                  have hp15 := of_decide_eq_true hd15
                                  exfalso
                                  omega
                              | true =>
                                have hp14 := of_decide_eq_true hd14
                                exfalso
                                omega
                          | true =>
                            have hp12 := of_decide_eq_true hd12
                            exfalso
                            omega
                        | true =>
                          have hp11 := of_decide_eq_true hd11
                          exfalso
                          omega
                      | true =>
                        have hp10 := of_decide_eq_true hd10
                        exfalso
                        omega
                    | true =>
                      have hp9 := of_decide_eq_true hd9
                      exfalso
                      omega
                  | true =>
                    have hp8 : ¬ ve = 0 := by simpa using hd8
                    exfalso
                    omega
                | true =>
                  have hp7 : ¬ ue = 0 := by simpa using hd7
                  exfalso
                  omega
          | true =>
            have hp4 := of_decide_eq_true hd4
            have hql : q < p.es.length := by omega
            have hbit := bel_bit (w := p.n) (m := m) hql
            have hqb := mC_bd hF (show q + 1 ≤ p.es.length from hql)
            unfold bdS at hqb
            refine run_auto [(127, .bool true)] 18 [true] [1] [4, 8, 9, 10, 11, 13, 14, 15, 16, 17, 20, 21, 22, 125, 126, 23, 130, 131] [0, 1] (st' := ⟨[(4, pA b1), (8, .bool false), (9, iV m), (10, iV ((belS p.n m p.es.length : Nat) : Int)), (11, iV ((belP p.n m p.es.length : Nat) : Int)), (13, iV uv), (14, iV ue), (15, iV vv), (16, iV ve), (17, .slice none 0 0), (20, iV dv), (21, iV de), (22, pA b2), (125, iV (p.es.length : Int)), (126, iV (q : Int)), (23, iV (q : Int)), (130, .agg #[iV p.ll, iV p.lh, iV p.ul, iV p.uh, .slice p.ea p.es.length p.ec]), (131, iV (q : Int))], [(b2, aO #[iV (lstS p q).1, iV (lstS p q).2] 23), (b1, aO #[iV p.ll, iV p.lh, iV p.ul, iV p.uh, .slice p.ea p.es.length p.ec] 26)]⟩) (acc := [(pA b1, pA b1), (.bool true, .bool true), (.bool (decide ((q : Int) < (p.es.length : Int))), .bool true)]) (by kernel_rfl) (by kernel_rfl) ⟨rfl, rfl, (bo hd4), trivial⟩ ?_
            refine run_ret1 14 #[.agg #[iV p.ll, iV p.lh, iV p.ul, iV p.uh, .slice p.ea p.es.length p.ec], iV (q : Int)] (some 132) (.tuple #[.agg #[iV ((mC p.n (q + 1)).1), iV ((mC p.n (q + 1)).2)], iV 0]) (by kernel_rfl) (fun w1 k1 h1 => (by have h := After_any p (q : Int) w1 (hp.keep (k1.keeps (fun _ h => h))); rw [show afterR p (q : Int) = .inr (mC p.n (q + 1)) from by unfold afterR; rw [hok, decide_eq_true (show 0 ≤ (q : Int) ∧ (q : Int) < (p.es.length : Int) by omega), hd2]; rfl] at h; exact h)) ?_
            refine run_auto [] 3 [] [] [4, 8, 9, 10, 11, 13, 14, 15, 16, 17, 20, 21, 22, 125, 126, 23, 133, 134] [0, 1] (st' := ⟨[(4, pA b1), (8, .bool false), (9, iV m), (10, iV ((belS p.n m p.es.length : Nat) : Int)), (11, iV ((belP p.n m p.es.length : Nat) : Int)), (13, iV uv), (14, iV ue), (15, iV vv), (16, iV ve), (17, .slice none 0 0), (20, iV dv), (21, iV de), (22, pA b2), (125, iV (p.es.length : Int)), (126, iV (q : Int)), (23, iV (q : Int)), (133, .agg #[iV ((mC p.n (q + 1)).1), iV ((mC p.n (q + 1)).2)]), (134, iV 0)], [(b2, aO #[iV (lstS p q).1, iV (lstS p q).2] 23), (b1, aO #[iV p.ll, iV p.lh, iV p.ul, iV p.uh, .slice p.ea p.es.length p.ec] 26)]⟩) (acc := []) (by kernel_rfl) (by kernel_rfl) trivial ?_
            refine run_new (aO #[iV 0, iV 0] 23) (fun b3 => pA b3) (some 24) (fun _ => by kernel_rfl) (fun b3 hb3 => ?_)
            refine run_auto [] 5 [] [0] [4, 8, 9, 10, 11, 13, 14, 15, 16, 17, 20, 21, 22, 125, 126, 23, 24, 25] [0, 1, 2] (st' := ⟨[(4, pA b1), (8, .bool false), (9, iV m), (10, iV ((belS p.n m p.es.length : Nat) : Int)), (11, iV ((belP p.n m p.es.length : Nat) : Int)), (13, iV uv), (14, iV ue), (15, iV vv), (16, iV ve), (17, .slice none 0 0), (20, iV dv), (21, iV de), (22, pA b2), (125, iV (p.es.length : Int)), (126, iV (q : Int)), (23, iV (q : Int)), (24, pA b3), (25, iV 0)], [(b3, aO #[iV ((mC p.n (q + 1)).1), iV ((mC p.n (q + 1)).2)] 23), (b2, aO #[iV (lstS p q).1, iV (lstS p q).2] 23), (b1, aO #[iV p.ll, iV p.lh, iV p.ul, iV p.uh, .slice p.ea p.es.length p.ec] 26)]⟩) (acc := [(pA b3, pA b3)]) (by kernel_rfl) (by kernel_rfl) ⟨rfl, trivial⟩ ?_
            cases hd5 : ((belS p.n m p.es.length : Nat).testBit q) with
            | false =>
              have hxhd5 := of_decide_eq_false (hbit.1.symm.trans hd5)
              cases hd6 : (decide (((mC p.n (q + 1)).2) < m)) with
              | false =>
                have hp6 := of_decide_eq_false hd6
                cases hd7 : ((belP p.n m p.es.length : Nat).testBit q) with
                | false =>
                  have hxhd7 := of_decide_eq_false (hbit.2.symm.trans hd7)
                  cases hd8 : (decide (((mC p.n (q + 1)).1) < m)) with
                  | false =>
                    have hp8 := of_decide_eq_false hd8
                    refine drawW 26 [{ val := fun _ => iV 0, slots := [25] },
                                          { val := fun _ => .bool false, slots := [135] },
                                          { val := fun _ => .bool false, slots := [136] },
                                          { val := fun _ => iV ((belS p.n m p.es.length : Nat) : Int), slots := [10, 137] },
                                          { val := fun _ => iV (q : Int), slots := [23, 137] },
                                          { val := fun _ => iV (((belS p.n m p.es.length : Nat) >>> q : Nat) : Int), slots := [137, 138, 139] },
                                          { val := fun _ => iV ((((belS p.n m p.es.length : Nat) >>> q : Nat) &&& 1 : Nat) : Int), slots := [137, 140] },
                                          { val := fun _ => .bool false, slots := [137, 141] },
                                          { val := fun _ => .pointer (some ⟨b3, 1, none⟩), slots := [24, 137] },
                                          { val := fun _ => iV ((mC p.n (q + 1)).2), slots := [137, 143], reads := [0] },
                                          { val := fun _ => iV m, slots := [9, 137] },
                                          { val := fun _ => .bool false, slots := [137, 144, 145] },
                                          { val := fun _ => .bool false, slots := [137, 142, 146] },
                                          { val := fun _ => .bool false, slots := [137, 147] },
                                          { val := fun _ => .bool false, slots := [148] },
                                          { val := fun _ => iV ((belP p.n m p.es.length : Nat) : Int), slots := [11, 149] },
                                          { val := fun _ => iV (q : Int), slots := [23, 149] },
                                          { val := fun _ => iV (((belP p.n m p.es.length : Nat) >>> q : Nat) : Int), slots := [149, 150, 151] },
                                          { val := fun _ => iV ((((belP p.n m p.es.length : Nat) >>> q : Nat) &&& 1 : Nat) : Int), slots := [149, 152] },
                                          { val := fun _ => .bool false, slots := [149, 153] },
                                          { val := fun _ => pA b3, slots := [24, 149] },
                                          { val := fun _ => iV ((mC p.n (q + 1)).1), slots := [149, 155], reads := [0] },
                                          { val := fun _ => iV m, slots := [9, 149] },
                                          { val := fun _ => .bool false, slots := [149, 156, 157] },
                                          { val := fun _ => .bool false, slots := [149, 154, 158] },
                                          { val := fun _ => .bool false, slots := [149, 159] }] [[], [0], [0, 1], [0, 1, 2], [0, 1, 2], [0, 1, 2, 3, 4], [0, 1, 2, 3, 4, 5], [0, 1, 2, 3, 4, 5, 6], [0, 1, 2], [0, 1, 2, 8], [0, 1, 2], [0, 1, 2, 8, 9, 10], [0, 1, 2, 3, 4, 5, 6, 7, 8, 9, 10, 11], [0, 1, 2, 3, 4, 5, 6, 7, 8, 9, 10, 11, 12], [0, 1, 2, 3, 4, 5, 6, 7, 8, 9, 10, 11, 12, 13], [0, 1, 2, 3, 4, 5, 6, 7, 8, 9, 10, 11, 12, 13, 14], [0, 1, 2, 3, 4, 5, 6, 7, 8, 9, 10, 11, 12, 13, 14], [0, 1, 2, 3, 4, 5, 6, 7, 8, 9, 10, 11, 12, 13, 14, 15, 16], [0, 1, 2, 3, 4, 5, 6, 7, 8, 9, 10, 11, 12, 13, 14, 15, 16, 17], [0, 1, 2, 3, 4, 5, 6, 7, 8, 9, 10, 11, 12, 13, 14, 15, 16, 17, 18], [0, 1, 2, 3, 4, 5, 6, 7, 8, 9, 10, 11, 12, 13, 14], [0, 1, 2, 3, 4, 5, 6, 7, 8, 9, 10, 11, 12, 13, 14, 20], [0, 1, 2, 3, 4, 5, 6, 7, 8, 9, 10, 11, 12, 13, 14], [0, 1, 2, 3, 4, 5, 6, 7, 8, 9, 10, 11, 12, 13, 14, 20, 21, 22], [0, 1, 2, 3, 4, 5, 6, 7, 8, 9, 10, 11, 12, 13, 14, 15, 16, 17, 18, 19, 20, 21, 22, 23], [0, 1, 2, 3, 4, 5, 6, 7, 8, 9, 10, 11, 12, 13, 14, 15, 16, 17, 18, 19, 20, 21, 22, 23, 24]] (by kernel_rfl) (by kernel_rfl) (by kernel_rfl) (by kernel_rfl) [4, 8, 9, 10, 11, 13, 14, 15, 16, 17, 20, 21, 22, 125, 126, 24, 160] [0, 1, 2] (by kernel_rfl)
                                          ⟨⟨⟨⟨⟨⟨⟨⟨⟨⟨⟨⟨⟨⟨⟨⟨⟨⟨⟨⟨⟨⟨⟨⟨⟨⟨trivial,
                                          tri_quietW (fun β => []) [] [] (fun β => []) (by kernel_rfl) (fun β extra => by kernel_rfl) (by kernel_rfl) (fun β => trivial)⟩,
                                          tri_quietW (fun β => [(136, .bool false)]) [] [] (fun β => [(.bool false, .bool false)]) (by kernel_rfl) (fun β extra => by kernel_rfl) (by kernel_rfl) (fun β => ⟨rfl, trivial⟩)⟩,
                                          tri_quietW (fun β => []) [] [] (fun β => []) (by kernel_rfl) (fun β extra => by kernel_rfl) (by kernel_rfl) (fun β => trivial)⟩,
                                          tri_quietW (fun β => []) [] [] (fun β => []) (by kernel_rfl) (fun β extra => by kernel_rfl) (by kernel_rfl) (fun β => trivial)⟩,
                                          tri_quietW (fun β => []) [] [] (fun β => []) (by kernel_rfl) (fun β extra => by kernel_rfl) (by kernel_rfl) (fun β => trivial)⟩,
                                          tri_vVW (fun β => iV (((belS p.n m p.es.length : Nat) >>> q : Nat) : Int)) (fun β => by kernel_rfl) (fun β => (binOp .shr 3 (iV ((belS p.n m p.es.length : Nat) : Nat)) (iV (q : Nat)) >>= fun v => pure (Next.value v))) (by kernel_rfl) (fun β extra => by kernel_rfl) (fun β => by kernel_rfl) (fun β w1 k1 h1 => shr_run (belS p.n m p.es.length : Nat) q (by omega))⟩,
                                          tri_quietW (fun β => [(141, iV ((((belS p.n m p.es.length : Nat) >>> q : Nat) &&& 1 : Nat) : Int))]) [] [] (fun β => [(iV (bits .and .i64 (((belS p.n m p.es.length : Nat) >>> q : Nat) : Int) 1), iV ((((belS p.n m p.es.length : Nat) >>> q : Nat) &&& 1 : Nat) : Int))]) (by kernel_rfl) (fun β extra => by kernel_rfl) (by kernel_rfl) (fun β => ⟨(and_nat ((belS p.n m p.es.length : Nat) >>> q : Nat) 1 (by have := Nat.shiftRight_le (belS p.n m p.es.length : Nat) q; omega) (by omega)), trivial⟩)⟩,
                                          tri_quietW (fun β => [(142, .bool false)]) [] [] (fun β => [(.bool (((((belS p.n m p.es.length : Nat) >>> q : Nat) &&& 1 : Nat) : Int) == 1), .bool false)]) (by kernel_rfl) (fun β extra => by kernel_rfl) (by kernel_rfl) (fun β => ⟨((bo (has_bit (belS p.n m p.es.length : Nat) q)).trans (bo hd5)), trivial⟩)⟩,
                                          tri_quietW (fun β => []) [] [] (fun β => []) (by kernel_rfl) (fun β extra => by kernel_rfl) (by kernel_rfl) (fun β => trivial)⟩,
                                          tri_quietW (fun β => []) [0] [0] (fun β => [(pA b3, pA b3)]) (by kernel_rfl) (fun β extra => by kernel_rfl) (by kernel_rfl) (fun β => ⟨rfl, trivial⟩)⟩,
                                          tri_quietW (fun β => []) [] [] (fun β => []) (by kernel_rfl) (fun β extra => by kernel_rfl) (by kernel_rfl) (fun β => trivial)⟩,
                                          tri_quietW (fun β => [(146, .bool false)]) [] [] (fun β => [(.bool (decide (((mC p.n (q + 1)).2) < m)), .bool false)]) (by kernel_rfl) (fun β extra => by kernel_rfl) (by kernel_rfl) (fun β => ⟨(bo hd6), trivial⟩)⟩,
                                          tri_quietW (fun β => [(147, .bool false)]) [] [] (fun β => [(.bool false, .bool false)]) (by kernel_rfl) (fun β extra => by kernel_rfl) (by kernel_rfl) (fun β => ⟨rfl, trivial⟩)⟩,
                                          tri_quietW (fun β => []) [] [] (fun β => []) (by kernel_rfl) (fun β extra => by kernel_rfl) (by kernel_rfl) (fun β => trivial)⟩,
                                          tri_quietW (fun β => []) [] [] (fun β => []) (by kernel_rfl) (fun β extra => by kernel_rfl) (by kernel_rfl) (fun β => trivial)⟩,
                                          tri_quietW (fun β => []) [] [] (fun β => []) (by kernel_rfl) (fun β extra => by kernel_rfl) (by kernel_rfl) (fun β => trivial)⟩,
                                          tri_quietW (fun β => []) [] [] (fun β => []) (by kernel_rfl) (fun β extra => by kernel_rfl) (by kernel_rfl) (fun β => trivial)⟩,
                                          tri_vVW (fun β => iV (((belP p.n m p.es.length : Nat) >>> q : Nat) : Int)) (fun β => by kernel_rfl) (fun β => (binOp .shr 3 (iV ((belP p.n m p.es.length : Nat) : Nat)) (iV (q : Nat)) >>= fun v => pure (Next.value v))) (by kernel_rfl) (fun β extra => by kernel_rfl) (fun β => by kernel_rfl) (fun β w1 k1 h1 => shr_run (belP p.n m p.es.length : Nat) q (by omega))⟩,
                                          tri_quietW (fun β => [(153, iV ((((belP p.n m p.es.length : Nat) >>> q : Nat) &&& 1 : Nat) : Int))]) [] [] (fun β => [(iV (bits .and .i64 (((belP p.n m p.es.length : Nat) >>> q : Nat) : Int) 1), iV ((((belP p.n m p.es.length : Nat) >>> q : Nat) &&& 1 : Nat) : Int))]) (by kernel_rfl) (fun β extra => by kernel_rfl) (by kernel_rfl) (fun β => ⟨(and_nat ((belP p.n m p.es.length : Nat) >>> q : Nat) 1 (by have := Nat.shiftRight_le (belP p.n m p.es.length : Nat) q; omega) (by omega)), trivial⟩)⟩,
                                          tri_quietW (fun β => [(154, .bool false)]) [] [] (fun β => [(.bool (((((belP p.n m p.es.length : Nat) >>> q : Nat) &&& 1 : Nat) : Int) == 1), .bool false)]) (by kernel_rfl) (fun β extra => by kernel_rfl) (by kernel_rfl) (fun β => ⟨((bo (has_bit (belP p.n m p.es.length : Nat) q)).trans (bo hd7)), trivial⟩)⟩,
                                          tri_quietW (fun β => []) [] [] (fun β => []) (by kernel_rfl) (fun β extra => by kernel_rfl) (by kernel_rfl) (fun β => trivial)⟩,
                                          tri_quietW (fun β => []) [0] [0] (fun β => [(pA b3, pA b3)]) (by kernel_rfl) (fun β extra => by kernel_rfl) (by kernel_rfl) (fun β => ⟨rfl, trivial⟩)⟩,
                                          tri_quietW (fun β => []) [] [] (fun β => []) (by kernel_rfl) (fun β extra => by kernel_rfl) (by kernel_rfl) (fun β => trivial)⟩,
                                          tri_quietW (fun β => [(158, .bool false)]) [] [] (fun β => [(.bool (decide (((mC p.n (q + 1)).1) < m)), .bool false)]) (by kernel_rfl) (fun β extra => by kernel_rfl) (by kernel_rfl) (fun β => ⟨(bo hd8), trivial⟩)⟩,
                                          tri_quietW (fun β => [(159, .bool false)]) [] [] (fun β => [(.bool false, .bool false)]) (by kernel_rfl) (fun β extra => by kernel_rfl) (by kernel_rfl) (fun β => ⟨rfl, trivial⟩)⟩,
                                          tri_quietW (fun β => []) [] [] (fun β => []) (by kernel_rfl) (fun β extra => by kernel_rfl) (by kernel_rfl) (fun β => trivial)⟩
                                          (fun β => ⟨[(4, pA b1), (8, .bool false), (9, iV m), (10, iV ((belS p.n m p.es.length : Nat) : Int)), (11, iV ((belP p.n m p.es.length : Nat) : Int)), (13, iV uv), (14, iV ue), (15, iV vv), (16, iV ve), (17, .slice none 0 0), (20, iV dv), (21, iV de), (22, pA b2), (125, iV (p.es.length : Int)), (126, iV (q : Int)), (24, pA b3), (160, .bool false)], [(b3, aO #[iV ((mC p.n (q + 1)).1), iV ((mC p.n (q + 1)).2)] 23), (b2, aO #[iV (lstS p q).1, iV (lstS p q).2] 23), (b1, aO #[iV p.ll, iV p.lh, iV p.ul, iV p.uh, .slice p.ea p.es.length p.ec] 26)]⟩) (fun β => by kernel_rfl) (fun β4 => ?_)
                    refine run_auto [(162, iV ((q + 1 : Nat) : Int))] 11 [false] [0, 1] [4, 8, 9, 10, 11, 13, 14, 15, 16, 17, 20, 21, 22, 125, 126] [1, 2] (st' := ⟨[(4, pA b1), (8, .bool false), (9, iV m), (10, iV ((belS p.n m p.es.length : Nat) : Int)), (11, iV ((belP p.n m p.es.length : Nat) : Int)), (13, iV uv), (14, iV ue), (15, iV vv), (16, iV ve), (17, .slice none 0 0), (20, iV dv), (21, iV de), (22, pA b2), (125, iV (p.es.length : Int)), (126, iV ((q + 1 : Nat) : Int))], [(b2, aO #[iV ((mC p.n (q + 1)).1), iV ((mC p.n (q + 1)).2)] 23), (b1, aO #[iV p.ll, iV p.lh, iV p.ul, iV p.uh, .slice p.ea p.es.length p.ec] 26)]⟩) (acc := [(iV (IntKind.i64.wrap ((q : Int) + 1)), iV ((q + 1 : Nat) : Int)), (pA b2, pA b2), (pA b3, pA b3), (.bool false, .bool false)]) (by kernel_rfl) (by kernel_rfl) ⟨(wr (by omega) (by omega)), rfl, rfl, rfl, trivial⟩ ?_
                    exact run_round (by kernel_rfl) (hJ1 (q + 1) (by omega) (by omega))
                  | true =>
                    have hp8 := of_decide_eq_true hd8
                    exfalso
                    omega
                | true =>
                  have hxhd7 := of_decide_eq_true (hbit.2.symm.trans hd7)
                  cases hd8 : (decide (((mC p.n (q + 1)).1) < m)) with
                  | false =>
                    have hp8 := of_decide_eq_false hd8
                    exfalso
                    omega
                  | true =>
                    have hp8 := of_decide_eq_true hd8
                    refine drawW 26 [{ val := fun _ => iV 0, slots := [25] },
                                          { val := fun _ => .bool false, slots := [135] },
                                          { val := fun _ => .bool false, slots := [136] },
                                          { val := fun _ => iV ((belS p.n m p.es.length : Nat) : Int), slots := [10, 137] },
                                          { val := fun _ => iV (q : Int), slots := [23, 137] },
                                          { val := fun _ => iV (((belS p.n m p.es.length : Nat) >>> q : Nat) : Int), slots := [137, 138, 139] },
                                          { val := fun _ => iV ((((belS p.n m p.es.length : Nat) >>> q : Nat) &&& 1 : Nat) : Int), slots := [137, 140] },
                                          { val := fun _ => .bool false, slots := [137, 141] },
                                          { val := fun _ => .pointer (some ⟨b3, 1, none⟩), slots := [24, 137] },
                                          { val := fun _ => iV ((mC p.n (q + 1)).2), slots := [137, 143], reads := [0] },
                                          { val := fun _ => iV m, slots := [9, 137] },
                                          { val := fun _ => .bool false, slots := [137, 144, 145] },
                                          { val := fun _ => .bool false, slots := [137, 142, 146] },
                                          { val := fun _ => .bool false, slots := [137, 147] },
                                          { val := fun _ => .bool false, slots := [148] },
                                          { val := fun _ => iV ((belP p.n m p.es.length : Nat) : Int), slots := [11, 149] },
                                          { val := fun _ => iV (q : Int), slots := [23, 149] },
                                          { val := fun _ => iV (((belP p.n m p.es.length : Nat) >>> q : Nat) : Int), slots := [149, 150, 151] },
                                          { val := fun _ => iV ((((belP p.n m p.es.length : Nat) >>> q : Nat) &&& 1 : Nat) : Int), slots := [149, 152] },
                                          { val := fun _ => .bool true, slots := [149, 153] },
                                          { val := fun _ => pA b3, slots := [24, 149] },
                                          { val := fun _ => iV ((mC p.n (q + 1)).1), slots := [149, 155], reads := [0] },
                                          { val := fun _ => iV m, slots := [9, 149] },
                                          { val := fun _ => .bool true, slots := [149, 156, 157] },
                                          { val := fun _ => .bool false, slots := [149, 154, 158] },
                                          { val := fun _ => .bool false, slots := [149, 159] }] [[], [0], [0, 1], [0, 1, 2], [0, 1, 2], [0, 1, 2, 3, 4], [0, 1, 2, 3, 4, 5], [0, 1, 2, 3, 4, 5, 6], [0, 1, 2], [0, 1, 2, 8], [0, 1, 2], [0, 1, 2, 8, 9, 10], [0, 1, 2, 3, 4, 5, 6, 7, 8, 9, 10, 11], [0, 1, 2, 3, 4, 5, 6, 7, 8, 9, 10, 11, 12], [0, 1, 2, 3, 4, 5, 6, 7, 8, 9, 10, 11, 12, 13], [0, 1, 2, 3, 4, 5, 6, 7, 8, 9, 10, 11, 12, 13, 14], [0, 1, 2, 3, 4, 5, 6, 7, 8, 9, 10, 11, 12, 13, 14], [0, 1, 2, 3, 4, 5, 6, 7, 8, 9, 10, 11, 12, 13, 14, 15, 16], [0, 1, 2, 3, 4, 5, 6, 7, 8, 9, 10, 11, 12, 13, 14, 15, 16, 17], [0, 1, 2, 3, 4, 5, 6, 7, 8, 9, 10, 11, 12, 13, 14, 15, 16, 17, 18], [0, 1, 2, 3, 4, 5, 6, 7, 8, 9, 10, 11, 12, 13, 14], [0, 1, 2, 3, 4, 5, 6, 7, 8, 9, 10, 11, 12, 13, 14, 20], [0, 1, 2, 3, 4, 5, 6, 7, 8, 9, 10, 11, 12, 13, 14], [0, 1, 2, 3, 4, 5, 6, 7, 8, 9, 10, 11, 12, 13, 14, 20, 21, 22], [0, 1, 2, 3, 4, 5, 6, 7, 8, 9, 10, 11, 12, 13, 14, 15, 16, 17, 18, 19, 20, 21, 22, 23], [0, 1, 2, 3, 4, 5, 6, 7, 8, 9, 10, 11, 12, 13, 14, 15, 16, 17, 18, 19, 20, 21, 22, 23, 24]] (by kernel_rfl) (by kernel_rfl) (by kernel_rfl) (by kernel_rfl) [4, 8, 9, 10, 11, 13, 14, 15, 16, 17, 20, 21, 22, 125, 126, 24, 160] [0, 1, 2] (by kernel_rfl)
                                          ⟨⟨⟨⟨⟨⟨⟨⟨⟨⟨⟨⟨⟨⟨⟨⟨⟨⟨⟨⟨⟨⟨⟨⟨⟨⟨trivial,
                                          tri_quietW (fun β => []) [] [] (fun β => []) (by kernel_rfl) (fun β extra => by kernel_rfl) (by kernel_rfl) (fun β => trivial)⟩,
                                          tri_quietW (fun β => [(136, .bool false)]) [] [] (fun β => [(.bool false, .bool false)]) (by kernel_rfl) (fun β extra => by kernel_rfl) (by kernel_rfl) (fun β => ⟨rfl, trivial⟩)⟩,
                                          tri_quietW (fun β => []) [] [] (fun β => []) (by kernel_rfl) (fun β extra => by kernel_rfl) (by kernel_rfl) (fun β => trivial)⟩,
                                          tri_quietW (fun β => []) [] [] (fun β => []) (by kernel_rfl) (fun β extra => by kernel_rfl) (by kernel_rfl) (fun β => trivial)⟩,
                                          tri_quietW (fun β => []) [] [] (fun β => []) (by kernel_rfl) (fun β extra => by kernel_rfl) (by kernel_rfl) (fun β => trivial)⟩,
                                          tri_vVW (fun β => iV (((belS p.n m p.es.length : Nat) >>> q : Nat) : Int)) (fun β => by kernel_rfl) (fun β => (binOp .shr 3 (iV ((belS p.n m p.es.length : Nat) : Nat)) (iV (q : Nat)) >>= fun v => pure (Next.value v))) (by kernel_rfl) (fun β extra => by kernel_rfl) (fun β => by kernel_rfl) (fun β w1 k1 h1 => shr_run (belS p.n m p.es.length : Nat) q (by omega))⟩,
                                          tri_quietW (fun β => [(141, iV ((((belS p.n m p.es.length : Nat) >>> q : Nat) &&& 1 : Nat) : Int))]) [] [] (fun β => [(iV (bits .and .i64 (((belS p.n m p.es.length : Nat) >>> q : Nat) : Int) 1), iV ((((belS p.n m p.es.length : Nat) >>> q : Nat) &&& 1 : Nat) : Int))]) (by kernel_rfl) (fun β extra => by kernel_rfl) (by kernel_rfl) (fun β => ⟨(and_nat ((belS p.n m p.es.length : Nat) >>> q : Nat) 1 (by have := Nat.shiftRight_le (belS p.n m p.es.length : Nat) q; omega) (by omega)), trivial⟩)⟩,
                                          tri_quietW (fun β => [(142, .bool false)]) [] [] (fun β => [(.bool (((((belS p.n m p.es.length : Nat) >>> q : Nat) &&& 1 : Nat) : Int) == 1), .bool false)]) (by kernel_rfl) (fun β extra => by kernel_rfl) (by kernel_rfl) (fun β => ⟨((bo (has_bit (belS p.n m p.es.length : Nat) q)).trans (bo hd5)), trivial⟩)⟩,
                                          tri_quietW (fun β => []) [] [] (fun β => []) (by kernel_rfl) (fun β extra => by kernel_rfl) (by kernel_rfl) (fun β => trivial)⟩,
                                          tri_quietW (fun β => []) [0] [0] (fun β => [(pA b3, pA b3)]) (by kernel_rfl) (fun β extra => by kernel_rfl) (by kernel_rfl) (fun β => ⟨rfl, trivial⟩)⟩,
                                          tri_quietW (fun β => []) [] [] (fun β => []) (by kernel_rfl) (fun β extra => by kernel_rfl) (by kernel_rfl) (fun β => trivial)⟩,
                                          tri_quietW (fun β => [(146, .bool false)]) [] [] (fun β => [(.bool (decide (((mC p.n (q + 1)).2) < m)), .bool false)]) (by kernel_rfl) (fun β extra => by kernel_rfl) (by kernel_rfl) (fun β => ⟨(bo hd6), trivial⟩)⟩,
                                          tri_quietW (fun β => [(147, .bool false)]) [] [] (fun β => [(.bool false, .bool false)]) (by kernel_rfl) (fun β extra => by kernel_rfl) (by kernel_rfl) (fun β => ⟨rfl, trivial⟩)⟩,
                                          tri_quietW (fun β => []) [] [] (fun β => []) (by kernel_rfl) (fun β extra => by kernel_rfl) (by kernel_rfl) (fun β => trivial)⟩,
                                          tri_quietW (fun β => []) [] [] (fun β => []) (by kernel_rfl) (fun β extra => by kernel_rfl) (by kernel_rfl) (fun β => trivial)⟩,
                                          tri_quietW (fun β => []) [] [] (fun β => []) (by kernel_rfl) (fun β extra => by kernel_rfl) (by kernel_rfl) (fun β => trivial)⟩,
                                          tri_quietW (fun β => []) [] [] (fun β => []) (by kernel_rfl) (fun β extra => by kernel_rfl) (by kernel_rfl) (fun β => trivial)⟩,
                                          tri_vVW (fun β => iV (((belP p.n m p.es.length : Nat) >>> q : Nat) : Int)) (fun β => by kernel_rfl) (fun β => (binOp .shr 3 (iV ((belP p.n m p.es.length : Nat) : Nat)) (iV (q : Nat)) >>= fun v => pure (Next.value v))) (by kernel_rfl) (fun β extra => by kernel_rfl) (fun β => by kernel_rfl) (fun β w1 k1 h1 => shr_run (belP p.n m p.es.length : Nat) q (by omega))⟩,
                                          tri_quietW (fun β => [(153, iV ((((belP p.n m p.es.length : Nat) >>> q : Nat) &&& 1 : Nat) : Int))]) [] [] (fun β => [(iV (bits .and .i64 (((belP p.n m p.es.length : Nat) >>> q : Nat) : Int) 1), iV ((((belP p.n m p.es.length : Nat) >>> q : Nat) &&& 1 : Nat) : Int))]) (by kernel_rfl) (fun β extra => by kernel_rfl) (by kernel_rfl) (fun β => ⟨(and_nat ((belP p.n m p.es.length : Nat) >>> q : Nat) 1 (by have := Nat.shiftRight_le (belP p.n m p.es.length : Nat) q; omega) (by omega)), trivial⟩)⟩,
                                          tri_quietW (fun β => [(154, .bool true)]) [] [] (fun β => [(.bool (((((belP p.n m p.es.length : Nat) >>> q : Nat) &&& 1 : Nat) : Int) == 1), .bool true)]) (by kernel_rfl) (fun β extra => by kernel_rfl) (by kernel_rfl) (fun β => ⟨((bo (has_bit (belP p.n m p.es.length : Nat) q)).trans (bo hd7)), trivial⟩)⟩,
                                          tri_quietW (fun β => []) [] [] (fun β => []) (by kernel_rfl) (fun β extra => by kernel_rfl) (by kernel_rfl) (fun β => trivial)⟩,
                                          tri_quietW (fun β => []) [0] [0] (fun β => [(pA b3, pA b3)]) (by kernel_rfl) (fun β extra => by kernel_rfl) (by kernel_rfl) (fun β => ⟨rfl, trivial⟩)⟩,
                                          tri_quietW (fun β => []) [] [] (fun β => []) (by kernel_rfl) (fun β extra => by kernel_rfl) (by kernel_rfl) (fun β => trivial)⟩,
                                          tri_quietW (fun β => [(158, .bool true)]) [] [] (fun β => [(.bool (decide (((mC p.n (q + 1)).1) < m)), .bool true)]) (by kernel_rfl) (fun β extra => by kernel_rfl) (by kernel_rfl) (fun β => ⟨(bo hd8), trivial⟩)⟩,
                                          tri_quietW (fun β => [(159, .bool false)]) [] [] (fun β => [(.bool false, .bool false)]) (by kernel_rfl) (fun β extra => by kernel_rfl) (by kernel_rfl) (fun β => ⟨rfl, trivial⟩)⟩,
                                          tri_quietW (fun β => []) [] [] (fun β => []) (by kernel_rfl) (fun β extra => by kernel_rfl) (by kernel_rfl) (fun β => trivial)⟩
                                          (fun β => ⟨[(4, pA b1), (8, .bool false), (9, iV m), (10, iV ((belS p.n m p.es.length : Nat) : Int)), (11, iV ((belP p.n m p.es.length : Nat) : Int)), (13, iV uv), (14, iV ue), (15, iV vv), (16, iV ve), (17, .slice none 0 0), (20, iV dv), (21, iV de), (22, pA b2), (125, iV (p.es.length : Int)), (126, iV (q : Int)), (24, pA b3), (160, .bool false)], [(b3, aO #[iV ((mC p.n (q + 1)).1), iV ((mC p.n (q + 1)).2)] 23), (b2, aO #[iV (lstS p q).1, iV (lstS p q).2] 23), (b1, aO #[iV p.ll, iV p.lh, iV p.ul, iV p.uh, .slice p.ea p.es.length p.ec] 26)]⟩) (fun β => by kernel_rfl) (fun β4 => ?_)
                    refine run_auto [(162, iV ((q + 1 : Nat) : Int))] 11 [false] [0, 1] [4, 8, 9, 10, 11, 13, 14, 15, 16, 17, 20, 21, 22, 125, 126] [1, 2] (st' := ⟨[(4, pA b1), (8, .bool false), (9, iV m), (10, iV ((belS p.n m p.es.length : Nat) : Int)), (11, iV ((belP p.n m p.es.length : Nat) : Int)), (13, iV uv), (14, iV ue), (15, iV vv), (16, iV ve), (17, .slice none 0 0), (20, iV dv), (21, iV de), (22, pA b2), (125, iV (p.es.length : Int)), (126, iV ((q + 1 : Nat) : Int))], [(b2, aO #[iV ((mC p.n (q + 1)).1), iV ((mC p.n (q + 1)).2)] 23), (b1, aO #[iV p.ll, iV p.lh, iV p.ul, iV p.uh, .slice p.ea p.es.length p.ec] 26)]⟩) (acc := [(iV (IntKind.i64.wrap ((q : Int) + 1)), iV ((q + 1 : Nat) : Int)), (pA b2, pA b2), (pA b3, pA b3), (.bool false, .bool false)]) (by kernel_rfl) (by kernel_rfl) ⟨(wr (by omega) (by omega)), rfl, rfl, rfl, trivial⟩ ?_
                    exact run_round (by kernel_rfl) (hJ1 (q + 1) (by omega) (by omega))
              | true =>
                have hp6 := of_decide_eq_true hd6
                exfalso
                omega
            | true =>
              have hxhd5 := of_decide_eq_true (hbit.1.symm.trans hd5)
              cases hd6 : (decide (((mC p.n (q + 1)).2) < m)) with
              | false =>
                have hp6 := of_decide_eq_false hd6
                exfalso
                omega
              | true =>
                have hp6 := of_decide_eq_true hd6
                cases hd7 : ((belP p.n m p.es.length : Nat).testBit q) with
                | false =>
                  have hxhd7 := of_decide_eq_false (hbit.2.symm.trans hd7)
                  cases hd8 : (decide (((mC p.n (q + 1)).1) < m)) with
                  | false =>
                    have hp8 := of_decide_eq_false hd8
                    refine drawW 26 [{ val := fun _ => iV 0, slots := [25] },
                                          { val := fun _ => .bool false, slots := [135] },
                                          { val := fun _ => .bool false, slots := [136] },
                                          { val := fun _ => iV ((belS p.n m p.es.length : Nat) : Int), slots := [10, 137] },
                                          { val := fun _ => iV (q : Int), slots := [23, 137] },
                                          { val := fun _ => iV (((belS p.n m p.es.length : Nat) >>> q : Nat) : Int), slots := [137, 138, 139] },
                                          { val := fun _ => iV ((((belS p.n m p.es.length : Nat) >>> q : Nat) &&& 1 : Nat) : Int), slots := [137, 140] },
                                          { val := fun _ => .bool true, slots := [137, 141] },
                                          { val := fun _ => .pointer (some ⟨b3, 1, none⟩), slots := [24, 137] },
                                          { val := fun _ => iV ((mC p.n (q + 1)).2), slots := [137, 143], reads := [0] },
                                          { val := fun _ => iV m, slots := [9, 137] },
                                          { val := fun _ => .bool true, slots := [137, 144, 145] },
                                          { val := fun _ => .bool false, slots := [137, 142, 146] },
                                          { val := fun _ => .bool false, slots := [137, 147] },
                                          { val := fun _ => .bool false, slots := [148] },
                                          { val := fun _ => iV ((belP p.n m p.es.length : Nat) : Int), slots := [11, 149] },
                                          { val := fun _ => iV (q : Int), slots := [23, 149] },
                                          { val := fun _ => iV (((belP p.n m p.es.length : Nat) >>> q : Nat) : Int), slots := [149, 150, 151] },
                                          { val := fun _ => iV ((((belP p.n m p.es.length : Nat) >>> q : Nat) &&& 1 : Nat) : Int), slots := [149, 152] },
                                          { val := fun _ => .bool false, slots := [149, 153] },
                                          { val := fun _ => pA b3, slots := [24, 149] },
                                          { val := fun _ => iV ((mC p.n (q + 1)).1), slots := [149, 155], reads := [0] },
                                          { val := fun _ => iV m, slots := [9, 149] },
                                          { val := fun _ => .bool false, slots := [149, 156, 157] },
                                          { val := fun _ => .bool false, slots := [149, 154, 158] },
                                          { val := fun _ => .bool false, slots := [149, 159] }] [[], [0], [0, 1], [0, 1, 2], [0, 1, 2], [0, 1, 2, 3, 4], [0, 1, 2, 3, 4, 5], [0, 1, 2, 3, 4, 5, 6], [0, 1, 2], [0, 1, 2, 8], [0, 1, 2], [0, 1, 2, 8, 9, 10], [0, 1, 2, 3, 4, 5, 6, 7, 8, 9, 10, 11], [0, 1, 2, 3, 4, 5, 6, 7, 8, 9, 10, 11, 12], [0, 1, 2, 3, 4, 5, 6, 7, 8, 9, 10, 11, 12, 13], [0, 1, 2, 3, 4, 5, 6, 7, 8, 9, 10, 11, 12, 13, 14], [0, 1, 2, 3, 4, 5, 6, 7, 8, 9, 10, 11, 12, 13, 14], [0, 1, 2, 3, 4, 5, 6, 7, 8, 9, 10, 11, 12, 13, 14, 15, 16], [0, 1, 2, 3, 4, 5, 6, 7, 8, 9, 10, 11, 12, 13, 14, 15, 16, 17], [0, 1, 2, 3, 4, 5, 6, 7, 8, 9, 10, 11, 12, 13, 14, 15, 16, 17, 18], [0, 1, 2, 3, 4, 5, 6, 7, 8, 9, 10, 11, 12, 13, 14], [0, 1, 2, 3, 4, 5, 6, 7, 8, 9, 10, 11, 12, 13, 14, 20], [0, 1, 2, 3, 4, 5, 6, 7, 8, 9, 10, 11, 12, 13, 14], [0, 1, 2, 3, 4, 5, 6, 7, 8, 9, 10, 11, 12, 13, 14, 20, 21, 22], [0, 1, 2, 3, 4, 5, 6, 7, 8, 9, 10, 11, 12, 13, 14, 15, 16, 17, 18, 19, 20, 21, 22, 23], [0, 1, 2, 3, 4, 5, 6, 7, 8, 9, 10, 11, 12, 13, 14, 15, 16, 17, 18, 19, 20, 21, 22, 23, 24]] (by kernel_rfl) (by kernel_rfl) (by kernel_rfl) (by kernel_rfl) [4, 8, 9, 10, 11, 13, 14, 15, 16, 17, 20, 21, 22, 125, 126, 24, 160] [0, 1, 2] (by kernel_rfl)
                                          ⟨⟨⟨⟨⟨⟨⟨⟨⟨⟨⟨⟨⟨⟨⟨⟨⟨⟨⟨⟨⟨⟨⟨⟨⟨⟨trivial,
                                          tri_quietW (fun β => []) [] [] (fun β => []) (by kernel_rfl) (fun β extra => by kernel_rfl) (by kernel_rfl) (fun β => trivial)⟩,
                                          tri_quietW (fun β => [(136, .bool false)]) [] [] (fun β => [(.bool false, .bool false)]) (by kernel_rfl) (fun β extra => by kernel_rfl) (by kernel_rfl) (fun β => ⟨rfl, trivial⟩)⟩,
                                          tri_quietW (fun β => []) [] [] (fun β => []) (by kernel_rfl) (fun β extra => by kernel_rfl) (by kernel_rfl) (fun β => trivial)⟩,
                                          tri_quietW (fun β => []) [] [] (fun β => []) (by kernel_rfl) (fun β extra => by kernel_rfl) (by kernel_rfl) (fun β => trivial)⟩,
                                          tri_quietW (fun β => []) [] [] (fun β => []) (by kernel_rfl) (fun β extra => by kernel_rfl) (by kernel_rfl) (fun β => trivial)⟩,
                                          tri_vVW (fun β => iV (((belS p.n m p.es.length : Nat) >>> q : Nat) : Int)) (fun β => by kernel_rfl) (fun β => (binOp .shr 3 (iV ((belS p.n m p.es.length : Nat) : Nat)) (iV (q : Nat)) >>= fun v => pure (Next.value v))) (by kernel_rfl) (fun β extra => by kernel_rfl) (fun β => by kernel_rfl) (fun β w1 k1 h1 => shr_run (belS p.n m p.es.length : Nat) q (by omega))⟩,
                                          tri_quietW (fun β => [(141, iV ((((belS p.n m p.es.length : Nat) >>> q : Nat) &&& 1 : Nat) : Int))]) [] [] (fun β => [(iV (bits .and .i64 (((belS p.n m p.es.length : Nat) >>> q : Nat) : Int) 1), iV ((((belS p.n m p.es.length : Nat) >>> q : Nat) &&& 1 : Nat) : Int))]) (by kernel_rfl) (fun β extra => by kernel_rfl) (by kernel_rfl) (fun β => ⟨(and_nat ((belS p.n m p.es.length : Nat) >>> q : Nat) 1 (by have := Nat.shiftRight_le (belS p.n m p.es.length : Nat) q; omega) (by omega)), trivial⟩)⟩,
                                          tri_quietW (fun β => [(142, .bool true)]) [] [] (fun β => [(.bool (((((belS p.n m p.es.length : Nat) >>> q : Nat) &&& 1 : Nat) : Int) == 1), .bool true)]) (by kernel_rfl) (fun β extra => by kernel_rfl) (by kernel_rfl) (fun β => ⟨((bo (has_bit (belS p.n m p.es.length : Nat) q)).trans (bo hd5)), trivial⟩)⟩,
                                          tri_quietW (fun β => []) [] [] (fun β => []) (by kernel_rfl) (fun β extra => by kernel_rfl) (by kernel_rfl) (fun β => trivial)⟩,
                                          tri_quietW (fun β => []) [0] [0] (fun β => [(pA b3, pA b3)]) (by kernel_rfl) (fun β extra => by kernel_rfl) (by kernel_rfl) (fun β => ⟨rfl, trivial⟩)⟩,
                                          tri_quietW (fun β => []) [] [] (fun β => []) (by kernel_rfl) (fun β extra => by kernel_rfl) (by kernel_rfl) (fun β => trivial)⟩,
                                          tri_quietW (fun β => [(146, .bool true)]) [] [] (fun β => [(.bool (decide (((mC p.n (q + 1)).2) < m)), .bool true)]) (by kernel_rfl) (fun β extra => by kernel_rfl) (by kernel_rfl) (fun β => ⟨(bo hd6), trivial⟩)⟩,
                                          tri_quietW (fun β => [(147, .bool false)]) [] [] (fun β => [(.bool false, .bool false)]) (by kernel_rfl) (fun β extra => by kernel_rfl) (by kernel_rfl) (fun β => ⟨rfl, trivial⟩)⟩,
                                          tri_quietW (fun β => []) [] [] (fun β => []) (by kernel_rfl) (fun β extra => by kernel_rfl) (by kernel_rfl) (fun β => trivial)⟩,
                                          tri_quietW (fun β => []) [] [] (fun β => []) (by kernel_rfl) (fun β extra => by kernel_rfl) (by kernel_rfl) (fun β => trivial)⟩,
                                          tri_quietW (fun β => []) [] [] (fun β => []) (by kernel_rfl) (fun β extra => by kernel_rfl) (by kernel_rfl) (fun β => trivial)⟩,
                                          tri_quietW (fun β => []) [] [] (fun β => []) (by kernel_rfl) (fun β extra => by kernel_rfl) (by kernel_rfl) (fun β => trivial)⟩,
                                          tri_vVW (fun β => iV (((belP p.n m p.es.length : Nat) >>> q : Nat) : Int)) (fun β => by kernel_rfl) (fun β => (binOp .shr 3 (iV ((belP p.n m p.es.length : Nat) : Nat)) (iV (q : Nat)) >>= fun v => pure (Next.value v))) (by kernel_rfl) (fun β extra => by kernel_rfl) (fun β => by kernel_rfl) (fun β w1 k1 h1 => shr_run (belP p.n m p.es.length : Nat) q (by omega))⟩,
                                          tri_quietW (fun β => [(153, iV ((((belP p.n m p.es.length : Nat) >>> q : Nat) &&& 1 : Nat) : Int))]) [] [] (fun β => [(iV (bits .and .i64 (((belP p.n m p.es.length : Nat) >>> q : Nat) : Int) 1), iV ((((belP p.n m p.es.length : Nat) >>> q : Nat) &&& 1 : Nat) : Int))]) (by kernel_rfl) (fun β extra => by kernel_rfl) (by kernel_rfl) (fun β => ⟨(and_nat ((belP p.n m p.es.length : Nat) >>> q : Nat) 1 (by have := Nat.shiftRight_le (belP p.n m p.es.length : Nat) q; omega) (by omega)), trivial⟩)⟩,
                                          tri_quietW (fun β => [(154, .bool false)]) [] [] (fun β => [(.bool (((((belP p.n m p.es.length : Nat) >>> q : Nat) &&& 1 : Nat) : Int) == 1), .bool false)]) (by kernel_rfl) (fun β extra => by kernel_rfl) (by kernel_rfl) (fun β => ⟨((bo (has_bit (belP p.n m p.es.length : Nat) q)).trans (bo hd7)), trivial⟩)⟩,
                                          tri_quietW (fun β => []) [] [] (fun β => []) (by kernel_rfl) (fun β extra => by kernel_rfl) (by kernel_rfl) (fun β => trivial)⟩,
                                          tri_quietW (fun β => []) [0] [0] (fun β => [(pA b3, pA b3)]) (by kernel_rfl) (fun β extra => by kernel_rfl) (by kernel_rfl) (fun β => ⟨rfl, trivial⟩)⟩,
                                          tri_quietW (fun β => []) [] [] (fun β => []) (by kernel_rfl) (fun β extra => by kernel_rfl) (by kernel_rfl) (fun β => trivial)⟩,
                                          tri_quietW (fun β => [(158, .bool false)]) [] [] (fun β => [(.bool (decide (((mC p.n (q + 1)).1) < m)), .bool false)]) (by kernel_rfl) (fun β extra => by kernel_rfl) (by kernel_rfl) (fun β => ⟨(bo hd8), trivial⟩)⟩,
                                          tri_quietW (fun β => [(159, .bool false)]) [] [] (fun β => [(.bool false, .bool false)]) (by kernel_rfl) (fun β extra => by kernel_rfl) (by kernel_rfl) (fun β => ⟨rfl, trivial⟩)⟩,
                                          tri_quietW (fun β => []) [] [] (fun β => []) (by kernel_rfl) (fun β extra => by kernel_rfl) (by kernel_rfl) (fun β => trivial)⟩
                                          (fun β => ⟨[(4, pA b1), (8, .bool false), (9, iV m), (10, iV ((belS p.n m p.es.length : Nat) : Int)), (11, iV ((belP p.n m p.es.length : Nat) : Int)), (13, iV uv), (14, iV ue), (15, iV vv), (16, iV ve), (17, .slice none 0 0), (20, iV dv), (21, iV de), (22, pA b2), (125, iV (p.es.length : Int)), (126, iV (q : Int)), (24, pA b3), (160, .bool false)], [(b3, aO #[iV ((mC p.n (q + 1)).1), iV ((mC p.n (q + 1)).2)] 23), (b2, aO #[iV (lstS p q).1, iV (lstS p q).2] 23), (b1, aO #[iV p.ll, iV p.lh, iV p.ul, iV p.uh, .slice p.ea p.es.length p.ec] 26)]⟩) (fun β => by kernel_rfl) (fun β4 => ?_)
                    refine run_auto [(162, iV ((q + 1 : Nat) : Int))] 11 [false] [0, 1] [4, 8, 9, 10, 11, 13, 14, 15, 16, 17, 20, 21, 22, 125, 126] [1, 2] (st' := ⟨[(4, pA b1), (8, .bool false), (9, iV m), (10, iV ((belS p.n m p.es.length : Nat) : Int)), (11, iV ((belP p.n m p.es.length : Nat) : Int)), (13, iV uv), (14, iV ue), (15, iV vv), (16, iV ve), (17, .slice none 0 0), (20, iV dv), (21, iV de), (22, pA b2), (125, iV (p.es.length : Int)), (126, iV ((q + 1 : Nat) : Int))], [(b2, aO #[iV ((mC p.n (q + 1)).1), iV ((mC p.n (q + 1)).2)] 23), (b1, aO #[iV p.ll, iV p.lh, iV p.ul, iV p.uh, .slice p.ea p.es.length p.ec] 26)]⟩) (acc := [(iV (IntKind.i64.wrap ((q : Int) + 1)), iV ((q + 1 : Nat) : Int)), (pA b2, pA b2), (pA b3, pA b3), (.bool false, .bool false)]) (by kernel_rfl) (by kernel_rfl) ⟨(wr (by omega) (by omega)), rfl, rfl, rfl, trivial⟩ ?_
                    exact run_round (by kernel_rfl) (hJ1 (q + 1) (by omega) (by omega))
                  | true =>
                    have hp8 := of_decide_eq_true hd8
                    exfalso
                    omega
                | true =>
                  have hxhd7 := of_decide_eq_true (hbit.2.symm.trans hd7)
                  cases hd8 : (decide (((mC p.n (q + 1)).1) < m)) with
                  | false =>
                    have hp8 := of_decide_eq_false hd8
                    exfalso
                    omega
                  | true =>
                    have hp8 := of_decide_eq_true hd8
                    refine drawW 26 [{ val := fun _ => iV 0, slots := [25] },
                                          { val := fun _ => .bool false, slots := [135] },
                                          { val := fun _ => .bool false, slots := [136] },
                                          { val := fun _ => iV ((belS p.n m p.es.length : Nat) : Int), slots := [10, 137] },
                                          { val := fun _ => iV (q : Int), slots := [23, 137] },
                                          { val := fun _ => iV (((belS p.n m p.es.length : Nat) >>> q : Nat) : Int), slots := [137, 138, 139] },
                                          { val := fun _ => iV ((((belS p.n m p.es.length : Nat) >>> q : Nat) &&& 1 : Nat) : Int), slots := [137, 140] },
                                          { val := fun _ => .bool true, slots := [137, 141] },
                                          { val := fun _ => .pointer (some ⟨b3, 1, none⟩), slots := [24, 137] },
                                          { val := fun _ => iV ((mC p.n (q + 1)).2), slots := [137, 143], reads := [0] },
                                          { val := fun _ => iV m, slots := [9, 137] },
                                          { val := fun _ => .bool true, slots := [137, 144, 145] },
                                          { val := fun _ => .bool false, slots := [137, 142, 146] },
                                          { val := fun _ => .bool false, slots := [137, 147] },
                                          { val := fun _ => .bool false, slots := [148] },
                                          { val := fun _ => iV ((belP p.n m p.es.length : Nat) : Int), slots := [11, 149] },
                                          { val := fun _ => iV (q : Int), slots := [23, 149] },
                                          { val := fun _ => iV (((belP p.n m p.es.length : Nat) >>> q : Nat) : Int), slots := [149, 150, 151] },
                                          { val := fun _ => iV ((((belP p.n m p.es.length : Nat) >>> q : Nat) &&& 1 : Nat) : Int), slots := [149, 152] },
                                          { val := fun _ => .bool true, slots := [149, 153] },
                                          { val := fun _ => pA b3, slots := [24, 149] },
                                          { val := fun _ => iV ((mC p.n (q + 1)).1), slots := [149, 155], reads := [0] },
                                          { val := fun _ => iV m, slots := [9, 149] },
                                          { val := fun _ => .bool true, slots := [149, 156, 157] },
                                          { val := fun _ => .bool false, slots := [149, 154, 158] },
                                          { val := fun _ => .bool false, slots := [149, 159] }] [[], [0], [0, 1], [0, 1, 2], [0, 1, 2], [0, 1, 2, 3, 4], [0, 1, 2, 3, 4, 5], [0, 1, 2, 3, 4, 5, 6], [0, 1, 2], [0, 1, 2, 8], [0, 1, 2], [0, 1, 2, 8, 9, 10], [0, 1, 2, 3, 4, 5, 6, 7, 8, 9, 10, 11], [0, 1, 2, 3, 4, 5, 6, 7, 8, 9, 10, 11, 12], [0, 1, 2, 3, 4, 5, 6, 7, 8, 9, 10, 11, 12, 13], [0, 1, 2, 3, 4, 5, 6, 7, 8, 9, 10, 11, 12, 13, 14], [0, 1, 2, 3, 4, 5, 6, 7, 8, 9, 10, 11, 12, 13, 14], [0, 1, 2, 3, 4, 5, 6, 7, 8, 9, 10, 11, 12, 13, 14, 15, 16], [0, 1, 2, 3, 4, 5, 6, 7, 8, 9, 10, 11, 12, 13, 14, 15, 16, 17], [0, 1, 2, 3, 4, 5, 6, 7, 8, 9, 10, 11, 12, 13, 14, 15, 16, 17, 18], [0, 1, 2, 3, 4, 5, 6, 7, 8, 9, 10, 11, 12, 13, 14], [0, 1, 2, 3, 4, 5, 6, 7, 8, 9, 10, 11, 12, 13, 14, 20], [0, 1, 2, 3, 4, 5, 6, 7, 8, 9, 10, 11, 12, 13, 14], [0, 1, 2, 3, 4, 5, 6, 7, 8, 9, 10, 11, 12, 13, 14, 20, 21, 22], [0, 1, 2, 3, 4, 5, 6, 7, 8, 9, 10, 11, 12, 13, 14, 15, 16, 17, 18, 19, 20, 21, 22, 23], [0, 1, 2, 3, 4, 5, 6, 7, 8, 9, 10, 11, 12, 13, 14, 15, 16, 17, 18, 19, 20, 21, 22, 23, 24]] (by kernel_rfl) (by kernel_rfl) (by kernel_rfl) (by kernel_rfl) [4, 8, 9, 10, 11, 13, 14, 15, 16, 17, 20, 21, 22, 125, 126, 24, 160] [0, 1, 2] (by kernel_rfl)
                                          ⟨⟨⟨⟨⟨⟨⟨⟨⟨⟨⟨⟨⟨⟨⟨⟨⟨⟨⟨⟨⟨⟨⟨⟨⟨⟨trivial,
                                          tri_quietW (fun β => []) [] [] (fun β => []) (by kernel_rfl) (fun β extra => by kernel_rfl) (by kernel_rfl) (fun β => trivial)⟩,
                                          tri_quietW (fun β => [(136, .bool false)]) [] [] (fun β => [(.bool false, .bool false)]) (by kernel_rfl) (fun β extra => by kernel_rfl) (by kernel_rfl) (fun β => ⟨rfl, trivial⟩)⟩,
                                          tri_quietW (fun β => []) [] [] (fun β => []) (by kernel_rfl) (fun β extra => by kernel_rfl) (by kernel_rfl) (fun β => trivial)⟩,
                                          tri_quietW (fun β => []) [] [] (fun β => []) (by kernel_rfl) (fun β extra => by kernel_rfl) (by kernel_rfl) (fun β => trivial)⟩,
                                          tri_quietW (fun β => []) [] [] (fun β => []) (by kernel_rfl) (fun β extra => by kernel_rfl) (by kernel_rfl) (fun β => trivial)⟩,
                                          tri_vVW (fun β => iV (((belS p.n m p.es.length : Nat) >>> q : Nat) : Int)) (fun β => by kernel_rfl) (fun β => (binOp .shr 3 (iV ((belS p.n m p.es.length : Nat) : Nat)) (iV (q : Nat)) >>= fun v => pure (Next.value v))) (by kernel_rfl) (fun β extra => by kernel_rfl) (fun β => by kernel_rfl) (fun β w1 k1 h1 => shr_run (belS p.n m p.es.length : Nat) q (by omega))⟩,
                                          tri_quietW (fun β => [(141, iV ((((belS p.n m p.es.length : Nat) >>> q : Nat) &&& 1 : Nat) : Int))]) [] [] (fun β => [(iV (bits .and .i64 (((belS p.n m p.es.length : Nat) >>> q : Nat) : Int) 1), iV ((((belS p.n m p.es.length : Nat) >>> q : Nat) &&& 1 : Nat) : Int))]) (by kernel_rfl) (fun β extra => by kernel_rfl) (by kernel_rfl) (fun β => ⟨(and_nat ((belS p.n m p.es.length : Nat) >>> q : Nat) 1 (by have := Nat.shiftRight_le (belS p.n m p.es.length : Nat) q; omega) (by omega)), trivial⟩)⟩,
                                          tri_quietW (fun β => [(142, .bool true)]) [] [] (fun β => [(.bool (((((belS p.n m p.es.length : Nat) >>> q : Nat) &&& 1 : Nat) : Int) == 1), .bool true)]) (by kernel_rfl) (fun β extra => by kernel_rfl) (by kernel_rfl) (fun β => ⟨((bo (has_bit (belS p.n m p.es.length : Nat) q)).trans (bo hd5)), trivial⟩)⟩,
                                          tri_quietW (fun β => []) [] [] (fun β => []) (by kernel_rfl) (fun β extra => by kernel_rfl) (by kernel_rfl) (fun β => trivial)⟩,
                                          tri_quietW (fun β => []) [0] [0] (fun β => [(pA b3, pA b3)]) (by kernel_rfl) (fun β extra => by kernel_rfl) (by kernel_rfl) (fun β => ⟨rfl, trivial⟩)⟩,
                                          tri_quietW (fun β => []) [] [] (fun β => []) (by kernel_rfl) (fun β extra => by kernel_rfl) (by kernel_rfl) (fun β => trivial)⟩,
                                          tri_quietW (fun β => [(146, .bool true)]) [] [] (fun β => [(.bool (decide (((mC p.n (q + 1)).2) < m)), .bool true)]) (by kernel_rfl) (fun β extra => by kernel_rfl) (by kernel_rfl) (fun β => ⟨(bo hd6), trivial⟩)⟩,
                                          tri_quietW (fun β => [(147, .bool false)]) [] [] (fun β => [(.bool false, .bool false)]) (by kernel_rfl) (fun β extra => by kernel_rfl) (by kernel_rfl) (fun β => ⟨rfl, trivial⟩)⟩,
                                          tri_quietW (fun β => []) [] [] (fun β => []) (by kernel_rfl) (fun β extra => by kernel_rfl) (by kernel_rfl) (fun β => trivial)⟩,
                                          tri_quietW (fun β => []) [] [] (fun β => []) (by kernel_rfl) (fun β extra => by kernel_rfl) (by kernel_rfl) (fun β => trivial)⟩,
                                          tri_quietW (fun β => []) [] [] (fun β => []) (by kernel_rfl) (fun β extra => by kernel_rfl) (by kernel_rfl) (fun β => trivial)⟩,
                                          tri_quietW (fun β => []) [] [] (fun β => []) (by kernel_rfl) (fun β extra => by kernel_rfl) (by kernel_rfl) (fun β => trivial)⟩,
                                          tri_vVW (fun β => iV (((belP p.n m p.es.length : Nat) >>> q : Nat) : Int)) (fun β => by kernel_rfl) (fun β => (binOp .shr 3 (iV ((belP p.n m p.es.length : Nat) : Nat)) (iV (q : Nat)) >>= fun v => pure (Next.value v))) (by kernel_rfl) (fun β extra => by kernel_rfl) (fun β => by kernel_rfl) (fun β w1 k1 h1 => shr_run (belP p.n m p.es.length : Nat) q (by omega))⟩,
                                          tri_quietW (fun β => [(153, iV ((((belP p.n m p.es.length : Nat) >>> q : Nat) &&& 1 : Nat) : Int))]) [] [] (fun β => [(iV (bits .and .i64 (((belP p.n m p.es.length : Nat) >>> q : Nat) : Int) 1), iV ((((belP p.n m p.es.length : Nat) >>> q : Nat) &&& 1 : Nat) : Int))]) (by kernel_rfl) (fun β extra => by kernel_rfl) (by kernel_rfl) (fun β => ⟨(and_nat ((belP p.n m p.es.length : Nat) >>> q : Nat) 1 (by have := Nat.shiftRight_le (belP p.n m p.es.length : Nat) q; omega) (by omega)), trivial⟩)⟩,
                                          tri_quietW (fun β => [(154, .bool true)]) [] [] (fun β => [(.bool (((((belP p.n m p.es.length : Nat) >>> q : Nat) &&& 1 : Nat) : Int) == 1), .bool true)]) (by kernel_rfl) (fun β extra => by kernel_rfl) (by kernel_rfl) (fun β => ⟨((bo (has_bit (belP p.n m p.es.length : Nat) q)).trans (bo hd7)), trivial⟩)⟩,
                                          tri_quietW (fun β => []) [] [] (fun β => []) (by kernel_rfl) (fun β extra => by kernel_rfl) (by kernel_rfl) (fun β => trivial)⟩,
                                          tri_quietW (fun β => []) [0] [0] (fun β => [(pA b3, pA b3)]) (by kernel_rfl) (fun β extra => by kernel_rfl) (by kernel_rfl) (fun β => ⟨rfl, trivial⟩)⟩,
                                          tri_quietW (fun β => []) [] [] (fun β => []) (by kernel_rfl) (fun β extra => by kernel_rfl) (by kernel_rfl) (fun β => trivial)⟩,
                                          tri_quietW (fun β => [(158, .bool true)]) [] [] (fun β => [(.bool (decide (((mC p.n (q + 1)).1) < m)), .bool true)]) (by kernel_rfl) (fun β extra => by kernel_rfl) (by kernel_rfl) (fun β => ⟨(bo hd8), trivial⟩)⟩,
                                          tri_quietW (fun β => [(159, .bool false)]) [] [] (fun β => [(.bool false, .bool false)]) (by kernel_rfl) (fun β extra => by kernel_rfl) (by kernel_rfl) (fun β => ⟨rfl, trivial⟩)⟩,
                                          tri_quietW (fun β => []) [] [] (fun β => []) (by kernel_rfl) (fun β extra => by kernel_rfl) (by kernel_rfl) (fun β => trivial)⟩
                                          (fun β => ⟨[(4, pA b1), (8, .bool false), (9, iV m), (10, iV ((belS p.n m p.es.length : Nat) : Int)), (11, iV ((belP p.n m p.es.length : Nat) : Int)), (13, iV uv), (14, iV ue), (15, iV vv), (16, iV ve), (17, .slice none 0 0), (20, iV dv), (21, iV de), (22, pA b2), (125, iV (p.es.length : Int)), (126, iV (q : Int)), (24, pA b3), (160, .bool false)], [(b3, aO #[iV ((mC p.n (q + 1)).1), iV ((mC p.n (q + 1)).2)] 23), (b2, aO #[iV (lstS p q).1, iV (lstS p q).2] 23), (b1, aO #[iV p.ll, iV p.lh, iV p.ul, iV p.uh, .slice p.ea p.es.length p.ec] 26)]⟩) (fun β => by kernel_rfl) (fun β4 => ?_)
                    refine run_auto [(162, iV ((q + 1 : Nat) : Int))] 11 [false] [0, 1] [4, 8, 9, 10, 11, 13, 14, 15, 16, 17, 20, 21, 22, 125, 126] [1, 2] (st' := ⟨[(4, pA b1), (8, .bool false), (9, iV m), (10, iV ((belS p.n m p.es.length : Nat) : Int)), (11, iV ((belP p.n m p.es.length : Nat) : Int)), (13, iV uv), (14, iV ue), (15, iV vv), (16, iV ve), (17, .slice none 0 0), (20, iV dv), (21, iV de), (22, pA b2), (125, iV (p.es.length : Int)), (126, iV ((q + 1 : Nat) : Int))], [(b2, aO #[iV ((mC p.n (q + 1)).1), iV ((mC p.n (q + 1)).2)] 23), (b1, aO #[iV p.ll, iV p.lh, iV p.ul, iV p.uh, .slice p.ea p.es.length p.ec] 26)]⟩) (acc := [(iV (IntKind.i64.wrap ((q : Int) + 1)), iV ((q + 1 : Nat) : Int)), (pA b2, pA b2), (pA b3, pA b3), (.bool false, .bool false)]) (by kernel_rfl) (by kernel_rfl) ⟨(wr (by omega) (by omega)), rfl, rfl, rfl, trivial⟩ ?_
                    exact run_round (by kernel_rfl) (hJ1 (q + 1) (by omega) (by omega))
        | true =>
          have hp3 := of_decide_eq_true hd3
          have hil : i < xs.length := by omega
          obtain ⟨bx, ox, hba, hcx⟩ := hB (by intro h; rw [h] at hil; cases hil)
          have hc := hcx i hil
          refine run_auto [(63, .bool true)] 12 [true] [] [4, 8, 9, 10, 11, 12, 13, 14, 15, 16, 17, 60, 61, 62, 64] [0] (st' := ⟨[(4, pA b1), (8, .bool false), (9, iV m), (10, iV ((belS p.n m p.es.length : Nat) : Int)), (11, iV ((belP p.n m p.es.length : Nat) : Int)), (12, iV 0), (13, iV uv), (14, iV ue), (15, iV vv), (16, iV ve), (17, .slice none 0 0), (60, .slice sa xs.length sk), (61, iV (xs.length : Int)), (62, iV (i : Int)), (64, iV (i : Int))], [(b1, aO #[iV p.ll, iV p.lh, iV p.ul, iV p.uh, .slice p.ea p.es.length p.ec] 26)]⟩) (acc := [(.bool true, .bool true), (.bool (decide ((i : Int) < (xs.length : Int))), .bool true)]) (by kernel_rfl) (by kernel_rfl) ⟨rfl, (bo hd3), trivial⟩ ?_
          refine run_v (Instr.indexAt 45 (.slice sa xs.length sk) (iV (i : Int)) >>= fun v => pure (Next.value v)) (some 65) (.pointer (some ⟨bx, ox + i, none⟩)) (by kernel_rfl) (fun w1 k1 h1 => (by rw [hba]; exact idx_off (e := 5) (n := 1) (by kernel_rfl) (by kernel_rfl) bx ox xs.length sk .i64 i hil (ox + i) (by omega) w1)) ?_
          refine run_v (Instr.loadAt 5 (.pointer (some ⟨bx, ox + i, none⟩)) >>= fun v => pure (Next.value v)) (some 66) (.int .u8 (elI xs i)) (by kernel_rfl) (fun w1 k1 h1 => load_in (off := 0) k1 (fun h => h) [.int .u8 (elI xs i)] (c1 hc.1) (by kernel_rfl)) ?_
          cases hd4 : (decide ((i : Int) < 10)) with
          | false =>
            have hp4 := of_decide_eq_false hd4
            refine run_auto [(68, .bool false), (75, iV ((i + 1 : Nat) : Int))] 15 [false] [] [4, 8, 9, 10, 11, 12, 13, 14, 15, 16, 17, 60, 61, 62] [0] (st' := ⟨[(4, pA b1), (8, .bool false), (9, iV m), (10, iV ((belS p.n m p.es.length : Nat) : Int)), (11, iV ((belP p.n m p.es.length : Nat) : Int)), (12, iV 0), (13, iV uv), (14, iV ue), (15, iV vv), (16, iV ve), (17, .slice none 0 0), (60, .slice sa xs.length sk), (61, iV (xs.length : Int)), (62, iV ((i + 1 : Nat) : Int))], [(b1, aO #[iV p.ll, iV p.lh, iV p.ul, iV p.uh, .slice p.ea p.es.length p.ec] 26)]⟩) (acc := [(iV (IntKind.i64.wrap ((i : Int) + 1)), iV ((i + 1 : Nat) : Int)), (.bool false, .bool false), (.bool (decide ((i : Int) < 10)), .bool false)]) (by kernel_rfl) (by kernel_rfl) ⟨(wr (by omega) (by omega)), rfl, (bo hd4), trivial⟩ ?_
            have hst := Dl_no (xs := xs) (i := i) (by omega)
            have hj := hJ0 ((i + 1, 0, none)) (⟨by dsimp only; omega, by rw [hst, hz2, hz3], rfl⟩) (by dsimp only; omega)
            dsimp only at hj
            exact run_round (by kernel_rfl) hj
          | true =>
            have hp4 := of_decide_eq_true hd4
            refine run_auto [(68, .bool true), (71, iV (elI xs i)), (72, iV (elI xs i % 21))] 14 [true] [] [4, 8, 9, 10, 11, 12, 13, 14, 15, 16, 17, 60, 61, 62, 69, 72] [0] (st' := ⟨[(4, pA b1), (8, .bool false), (9, iV m), (10, iV ((belS p.n m p.es.length : Nat) : Int)), (11, iV ((belP p.n m p.es.length : Nat) : Int)), (12, iV 0), (13, iV uv), (14, iV ue), (15, iV vv), (16, iV ve), (17, .slice none 0 0), (60, .slice sa xs.length sk), (61, iV (xs.length : Int)), (62, iV (i : Int)), (69, .slice none 0 0), (72, iV (elI xs i % 21))], [(b1, aO #[iV p.ll, iV p.lh, iV p.ul, iV p.uh, .slice p.ea p.es.length p.ec] 26)]⟩) (acc := [(iV (Int.tmod (elI xs i) 21), iV (elI xs i % 21)), (iV (IntKind.i64.wrap (elI xs i)), iV (elI xs i)), (.bool true, .bool true), (.bool (decide ((i : Int) < 10)), .bool true)]) (by kernel_rfl) (by kernel_rfl) ⟨(rm 21 (by omega)), (wr (by omega) (by omega)), rfl, (bo hd4), trivial⟩ ?_
            refine run_new (aO #[iV (elI xs i % 21)] 3) (fun b2 => sV b2 1 1) (some 73) (fun _ => by kernel_rfl) (fun b2 hb2 => ?_)
            refine run_app_none (t := 38) (ty := 38) (e := 3) (n := 1) (z := (iV 0)) (by kernel_rfl) (by kernel_rfl) (by kernel_rfl) rfl (by kernel_rfl) inR inR_len (some 74) 1 1 ([(elI xs i % 21)] : List Int) ⟨b2, 0, none⟩ (by first | rfl | omega | (simp; done) | (simp; omega)) (by omega) (by kernel_rfl) (fun w1 k1 h1 jq uq hu => by rw [add_none, Nat.zero_add]; exact cells_of_heap (h1 (b2, aO #[iV (elI xs i % 21)] 3) (List.mem_of_getElem? (i := 0) (by kernel_rfl))) jq uq hu) (by omega) (fun b3 cap3 sp3 hb3 hqb3 hmb3 hlb3 => ?_)
            refine run_auto [(75, iV ((i + 1 : Nat) : Int))] 7 [] [] [4, 8, 9, 10, 11, 12, 13, 14, 15, 16, 17, 60, 61, 62] [0, 2] (st' := ⟨[(4, pA b1), (8, .bool false), (9, iV m), (10, iV ((belS p.n m p.es.length : Nat) : Int)), (11, iV ((belP p.n m p.es.length : Nat) : Int)), (12, iV 0), (13, iV uv), (14, iV ue), (15, iV vv), (16, iV ve), (17, sV b3 1 cap3), (60, .slice sa xs.length sk), (61, iV (xs.length : Int)), (62, iV ((i + 1 : Nat) : Int))], [(b3, cO ((([(elI xs i % 21)] : List Int)).flatMap inR ++ sp3) 3), (b1, aO #[iV p.ll, iV p.lh, iV p.ul, iV p.uh, .slice p.ea p.es.length p.ec] 26)]⟩) (acc := [(iV (IntKind.i64.wrap ((i : Int) + 1)), iV ((i + 1 : Nat) : Int))]) (by kernel_rfl) (by kernel_rfl) ⟨(wr (by omega) (by omega)), trivial⟩ ?_
            have hst := Dl_yes hil (show i < 10 by omega)
            have e0 : Dl xs i = [] := List.eq_nil_of_length_eq_zero (by rw [hz2, hz3])
            rw [e0, List.nil_append] at hst
            have hj := hJ0 ((i + 1, 1, some (b3, cap3, sp3))) (⟨by dsimp only; omega, by rw [hst]; rfl, by dsimp only; omega, hqb3, hmb3, by rw [hst]; exact hlb3, hb3⟩) (by dsimp only; omega)
            dsimp only at hj
            rw [hst] at hj
            exact run_round (by kernel_rfl) hj
      · skip
        obtain ⟨hz1, hz2, hz3⟩ := hI0
        dsimp only at hz1 hz2 hz3
        have hzl := Dl_len xs i hz1
        have hml : (1000000 : Nat) ≤ maxLen := by simp only [maxLen]; omega
        have hxl2 : xs.length ≤ 2 ^ 63 - 1 := by have h := hxl; simp only [maxLen] at h; exact h
        obtain ⟨hz4, hz5, hz6, hz7, hz8⟩ := hz3
        cases hd3 : (decide ((i : Int) < (xs.length : Int))) with
        | false =>
          have hp3 := of_decide_eq_false hd3
          have hD : Dl xs i = D := by rw [show i = xs.length by omega]; exact hDe
          rw [hD] at hz2
          have hDk := hz2
          dsimp only
          rw [hD]
          rw [hD] at hz7
          have hY := day_is hF hcan hD10 hDv hm1 hdv hde
          refine run_auto [(63, .bool false)] 12 [false] [1] [4, 8, 9, 10, 11, 12, 13, 14, 15, 16, 17, 77, 78, 79] [0, 1] (st' := ⟨[(4, pA b1), (8, .bool false), (9, iV m), (10, iV ((belS p.n m p.es.length : Nat) : Int)), (11, iV ((belP p.n m p.es.length : Nat) : Int)), (12, iV 0), (13, iV uv), (14, iV ue), (15, iV vv), (16, iV ve), (17, sV g k cap), (77, .agg #[iV p.ll, iV p.lh, iV p.ul, iV p.uh, .slice p.ea p.es.length p.ec]), (78, iV m), (79, sV g k cap)], [(g, cO ((D).flatMap inR ++ sp) 3), (b1, aO #[iV p.ll, iV p.lh, iV p.ul, iV p.uh, .slice p.ea p.es.length p.ec] 26)]⟩) (acc := [(pA b1, pA b1), (.bool false, .bool false), (.bool (decide ((i : Int) < (xs.length : Int))), .bool false)]) (by kernel_rfl) (by kernel_rfl) ⟨rfl, rfl, (bo hd3), trivial⟩ ?_
          refine run_ret1 24 #[.agg #[iV p.ll, iV p.lh, iV p.ul, iV p.uh, .slice p.ea p.es.length p.ec], iV m, sV g k cap] (some 80) (.tuple #[iV dv, iV de]) (by kernel_rfl) (fun w1 k1 h1 => (by have h := Day_any p m D (some ⟨g, 0, none⟩) cap w1 (hp.keep (k1.keeps (fun _ h => h))) (Ins.of_flat (L := D) (sp := sp) (h1 (g, cO ((D).flatMap inR ++ sp) 3) (List.mem_of_getElem? (i := 0) (by kernel_rfl)))) (by omega); rw [hDk, hdv, hde] at h; exact h)) ?_
          refine run_auto [(84, .bool false)] 18 [false] [1] [4, 8, 9, 10, 11, 13, 14, 15, 16, 17, 20, 21, 122] [0, 1] (st' := ⟨[(4, pA b1), (8, .bool false), (9, iV m), (10, iV ((belS p.n m p.es.length : Nat) : Int)), (11, iV ((belP p.n m p.es.length : Nat) : Int)), (13, iV uv), (14, iV ue), (15, iV vv), (16, iV ve), (17, sV g k cap), (20, iV dv), (21, iV de), (122, .agg #[iV p.ll, iV p.lh])], [(g, cO ((D).flatMap inR ++ sp) 3), (b1, aO #[iV p.ll, iV p.lh, iV p.ul, iV p.uh, .slice p.ea p.es.length p.ec] 26)]⟩) (acc := [(pA b1, pA b1), (.bool false, .bool false), (.bool false, .bool false)]) (by kernel_rfl) (by kernel_rfl) ⟨rfl, rfl, rfl, trivial⟩ ?_
          refine run_new (aO #[iV 0, iV 0] 23) (fun b2 => pA b2) (some 22) (fun _ => by kernel_rfl) (fun b2 hb2 => ?_)
          refine run_auto [] 11 [] [0, 2] [4, 8, 9, 10, 11, 13, 14, 15, 16, 17, 20, 21, 22, 125, 126] [0, 1, 2] (st' := ⟨[(4, pA b1), (8, .bool false), (9, iV m), (10, iV ((belS p.n m p.es.length : Nat) : Int)), (11, iV ((belP p.n m p.es.length : Nat) : Int)), (13, iV uv), (14, iV ue), (15, iV vv), (16, iV ve), (17, sV g k cap), (20, iV dv), (21, iV de), (22, pA b2), (125, iV (p.es.length : Int)), (126, iV 0)], [(b2, aO #[iV p.ll, iV p.lh] 23), (g, cO ((D).flatMap inR ++ sp) 3), (b1, aO #[iV p.ll, iV p.lh, iV p.ul, iV p.uh, .slice p.ea p.es.length p.ec] 26)]⟩) (acc := [(pA b1, pA b1), (pA b2, pA b2)]) (by kernel_rfl) (by kernel_rfl) ⟨rfl, rfl, trivial⟩ ?_
          refine run_auto [] 0 [] [] [4, 8, 9, 10, 11, 13, 14, 15, 16, 17, 20, 21, 22, 125, 126] [0, 1, 2] (st' := ⟨[(4, pA b1), (8, .bool false), (9, iV m), (10, iV ((belS p.n m p.es.length : Nat) : Int)), (11, iV ((belP p.n m p.es.length : Nat) : Int)), (13, iV uv), (14, iV ue), (15, iV vv), (16, iV ve), (17, sV g k cap), (20, iV dv), (21, iV de), (22, pA b2), (125, iV (p.es.length : Int)), (126, iV 0)], [(b2, aO #[iV p.ll, iV p.lh] 23), (g, cO ((D).flatMap inR ++ sp) 3), (b1, aO #[iV p.ll, iV p.lh, iV p.ul, iV p.uh, .slice p.ea p.es.length p.ec] 26)]⟩) (acc := []) (by kernel_rfl) (by kernel_rfl) trivial ?_
          refine run_loop (S := fun (q : Nat) => ⟨[(4, pA b1), (8, .bool false), (9, iV m), (10, iV ((belS p.n m p.es.length : Nat) : Int)), (11, iV ((belP p.n m p.es.length : Nat) : Int)), (13, iV uv), (14, iV ue), (15, iV vv), (16, iV ve), (17, sV g k cap), (20, iV dv), (21, iV de), (22, pA b2), (125, iV (p.es.length : Int)), (126, iV (q : Int))], [(b2, aO #[iV (lstS p q).1, iV (lstS p q).2] 23), (g, cO ((D).flatMap inR ++ sp) 3), (b1, aO #[iV p.ll, iV p.lh, iV p.ul, iV p.uh, .slice p.ea p.es.length p.ec] 26)]⟩) (fun q => q ≤ p.es.length) (fun q => p.es.length - q) (0) (by kernel_rfl) (Nat.zero_le _) (by simp [lstS]) (fun q hI1 J1 hJ1 => ?_)
          cases hd4 : (decide ((q : Int) < (p.es.length : Int))) with
          | false =>
            have hp4 := of_decide_eq_false hd4
            have hq : q = p.es.length := by omega
            rw [show lstS p q = mC p.n p.es.length by rw [hq]; exact lst_all p]
            cases hd5 : (ue == 0) with
            | false =>
              have hp5 : ¬ ue = 0 := by simpa using hd5
              cases hd6 : (decide (m ≤ (mC p.n p.es.length).1)) with
              | false =>
                have hp6 := of_decide_eq_false hd6
                cases hd7 : (ue != 0) with
                | false =>
                  have hp7 : ue = 0 := by simpa using hd7
                  exfalso
                  omega
                | true =>
                  have hp7 : ¬ ue = 0 := by simpa using hd7
                  cases hd8 : (ue != 4) with
                  | false =>
                    have hp8 : ue = 4 := by simpa using hd8
                    cases hd9 : (uv != 0) with
                    | false =>
                      have hp9 : uv = 0 := by simpa using hd9
                      refine run_auto [(127, .bool false), (164, .bool false), (168, .bool false), (169, .bool false), (172, .bool true), (175, .bool false), (178, .bool false), (184, .bool false), (196, .bool false)] 104 [false, false, false] [0, 0] [4, 8, 9, 20, 21, 26, 236, 237, 238] [1, 2] (st' := ⟨[(4, pA b1), (8, .bool false), (9, iV m), (20, iV dv), (21, iV de), (26, iV (mC p.n p.es.length).1), (236, sV g k cap), (237, iV (k : Int)), (238, iV 0)], [(g, cO ((D).flatMap inR ++ sp) 3), (b1, aO #[iV p.ll, iV p.lh, iV p.ul, iV p.uh, .slice p.ea p.es.length p.ec] 26)]⟩) (acc := [(pA b2, pA b2), (.bool false, .bool false), (.bool (ue == 0), .bool false), (.bool false, .bool false), (.bool (ue == 0), .bool false), (.bool (uv != 0), .bool false), (.bool (ue != 4), .bool false), (.bool (ue != 0), .bool true), (.bool false, .bool false), (.bool (decide (m ≤ (mC p.n p.es.length).1)), .bool false), (pA b2, pA b2), (.bool (ue == 0), .bool false), (.bool false, .bool false), (.bool (decide ((q : Int) < (p.es.length : Int))), .bool false)]) (by kernel_rfl) (by kernel_rfl) ⟨rfl, rfl, (bo hd5), rfl, (bo hd5), (bo hd9), (bo hd8), (bo hd7), rfl, (bo hd6), rfl, (bo hd5), rfl, (bo hd4), trivial⟩ ?_
                      refine run_auto [] 0 [] [] [4, 8, 9, 20, 21, 26, 236, 237, 238] [0, 1] (st' := ⟨[(4, pA b1), (8, .bool false), (9, iV m), (20, iV dv), (21, iV de), (26, iV (mC p.n p.es.length).1), (236, sV g k cap), (237, iV (k : Int)), (238, iV 0)], [(g, cO ((D).flatMap inR ++ sp) 3), (b1, aO #[iV p.ll, iV p.lh, iV p.ul, iV p.uh, .slice p.ea p.es.length p.ec] 26)]⟩) (acc := []) (by kernel_rfl) (by kernel_rfl) trivial ?_
                      refine run_loop (S := fun (j : Nat) => ⟨[(4, pA b1), (8, .bool false), (9, iV m), (20, iV dv), (21, iV de), (26, iV (nowS p D j)), (236, sV g k cap), (237, iV (k : Int)), (238, iV (j : Int))], [(g, cO ((D).flatMap inR ++ sp) 3), (b1, aO #[iV p.ll, iV p.lh, iV p.ul, iV p.uh, .slice p.ea p.es.length p.ec] 26)]⟩) (fun j => j ≤ k ∧ ∀ q, q < j → m ≤ nowS p D (q + 1)) (fun j => k - j) (0) (by kernel_rfl) (⟨Nat.zero_le _, fun q h => by cases h⟩) (by simp [now_zero]) (fun j hI2 J2 hJ2 => ?_)
                      obtain ⟨hj1, hj2⟩ := hI2
                      have hnb := now_bd hF hD10 hDv (i := j) (by omega)
                      cases hd10 : (decide ((j : Int) < (k : Int))) with
                      | false =>
                        have hp10 := of_decide_eq_false hd10
                        have hdone := hY.done (fun q hq => hj2 q (by omega))
                        cases hd11 : (de == 4) with
                        | false =>
                          have hp11 : ¬ de = 4 := by simpa using hd11
                          exfalso
                          omega
                        | true =>
                          have hp11 : de = 4 := by simpa using hd11
                          cases hd12 : (dv == 0) with
                          | false =>
                            have hp12 : ¬ dv = 0 := by simpa using hd12
                            exfalso
                            omega
                          | true =>
                            have hp12 : dv = 0 := by simpa using hd12
                            refine run_auto [(239, .bool false), (265, .bool true), (268, .bool true)] 16 [false] [] [8, 270] [] (st' := ⟨[(8, .bool false), (270, .bool true)], []⟩) (acc := [(.bool (dv == 0), .bool true), (.bool (de == 4), .bool true), (.bool false, .bool false), (.bool (decide ((j : Int) < (k : Int))), .bool false)]) (by kernel_rfl) (by kernel_rfl) ⟨(bo hd12), (bo hd11), rfl, (bo hd10), trivial⟩ ?_
                            refine run_ret1 13 #[] (some 271) (.bool true) (by kernel_rfl) (fun w1 k1 h1 => awake_any w1) ?_
                            refine run_auto [] 3 [] [] [8] [] (st' := ⟨[(8, .bool true)], []⟩) (acc := []) (by kernel_rfl) (by kernel_rfl) trivial ?_
                            refine run_end (fn := f7) rfl (Nat.le_refl _) (by kernel_rfl) [] [.bool true] (e := []) (by kernel_rfl) trivial (fun w1 k1 h1 => ?_)
                            exact ⟨rfl, k1.keeps (fun _ h => h)⟩
                      | true =>
                        have hp10 := of_decide_eq_true hd10
                        have hjk : j < k := by omega
                        have hjb := use_of hDv (i := j) (by omega)
                        have hjm : 0 ≤ elI D j * p.uh ∧ elI D j * p.uh ≤ 60 := ⟨Int.mul_nonneg hjb.1 (by omega), by have := Int.mul_le_mul hjb.2 hu0.2.2 (by omega) (by omega : (0 : Int) ≤ 20); omega⟩
                        refine run_auto [(239, .bool true)] 12 [true] [] [4, 8, 9, 20, 21, 26, 236, 237, 238, 240] [0, 1] (st' := ⟨[(4, pA b1), (8, .bool false), (9, iV m), (20, iV dv), (21, iV de), (26, iV (nowS p D j)), (236, sV g k cap), (237, iV (k : Int)), (238, iV (j : Int)), (240, iV (j : Int))], [(g, cO ((D).flatMap inR ++ sp) 3), (b1, aO #[iV p.ll, iV p.lh, iV p.ul, iV p.uh, .slice p.ea p.es.length p.ec] 26)]⟩) (acc := [(.bool true, .bool true), (.bool (decide ((j : Int) < (k : Int))), .bool true)]) (by kernel_rfl) (by kernel_rfl) ⟨rfl, (bo hd10), trivial⟩ ?_
                        refine run_v (Instr.indexAt 38 (sV g k cap) (iV (j : Int)) >>= fun v => pure (Next.value v)) (some 241) (.pointer (some ⟨g, j, none⟩)) (by kernel_rfl) (fun w1 k1 h1 => idx_off (e := 3) (n := 1) (by kernel_rfl) (by kernel_rfl) g (0) k cap .i64 j (by omega) (j) (by omega) w1) ?_
                        refine run_v (Instr.loadAt 3 (.pointer (some ⟨g, j, none⟩)) >>= fun v => pure (Next.value v)) (some 242) (iV (elI D j)) (by kernel_rfl) (fun w1 k1 h1 => load_own (e := 3) (fr := (0, 0)) (c := (D).flatMap inR ++ sp) h1 (List.mem_of_getElem? (i := 0) (by kernel_rfl)) (flat_loadF (c := inR) (n := 1) inR_len (by kernel_rfl) (i := j) (k := 0) (by first | omega | (simp; omega)) (by rw [inR_at (by first | omega | (simp; omega))]; rfl) (by omega))) ?_
                        cases hd11 : (decide (((nowS p D j) - ((elI D j) * p.uh)) < m)) with
                        | false =>
                          have hp11 := of_decide_eq_false hd11
                          have hnx := now_next (p := p) (i := j) (D := D) (by omega)
                          refine run_auto [(248, iV ((elI D j) * p.uh)), (249, iV ((nowS p D j) - ((elI D j) * p.uh))), (252, .bool false), (263, iV ((j + 1 : Nat) : Int))] 27 [false] [1] [4, 8, 9, 20, 21, 26, 236, 237, 238] [0, 1] (st' := ⟨[(4, pA b1), (8, .bool false), (9, iV m), (20, iV dv), (21, iV de), (26, iV ((nowS p D j) - ((elI D j) * p.uh))), (236, sV g k cap), (237, iV (k : Int)), (238, iV ((j + 1 : Nat) : Int))], [(g, cO ((D).flatMap inR ++ sp) 3), (b1, aO #[iV p.ll, iV p.lh, iV p.ul, iV p.uh, .slice p.ea p.es.length p.ec] 26)]⟩) (acc := [(iV (IntKind.i64.wrap ((j : Int) + 1)), iV ((j + 1 : Nat) : Int)), (.bool false, .bool false), (.bool (decide (((nowS p D j) - ((elI D j) * p.uh)) < m)), .bool false), (iV (IntKind.i64.wrap ((nowS p D j) - ((elI D j) * p.uh))), iV ((nowS p D j) - ((elI D j) * p.uh))), (iV (IntKind.i64.wrap ((elI D j) * p.uh)), iV ((elI D j) * p.uh)), (pA b1, pA b1)]) (by kernel_rfl) (by kernel_rfl) ⟨(wr (by omega) (by omega)), rfl, (bo hd11), (wr (by omega) (by omega)), (wr (by omega) (by omega)), rfl, trivial⟩ ?_
                          have hj := hJ2 (j + 1) (⟨by omega, fun q hq => (Nat.lt_succ_iff_lt_or_eq.1 hq).elim (hj2 q) (fun h => by rw [h]; omega)⟩) (by omega)
                          rw [now_next (by omega)] at hj
                          exact run_round (by kernel_rfl) hj
                        | true =>
                          have hp11 := of_decide_eq_true hd11
                          have hnx := now_next (p := p) (i := j) (D := D) (by omega)
                          have hit := hY.hit (j := j) (by omega) (by omega) hj2
                          cases hd12 : (de == 0) with
                          | false =>
                            have hp12 : ¬ de = 0 := by simpa using hd12
                            exfalso
                            omega
                          | true =>
                            have hp12 : de = 0 := by simpa using hd12
                            cases hd13 : (dv == (j : Int)) with
                            | false =>
                              have hp13 : ¬ dv = (j : Int) := by simpa using hd13
                              exfalso
                              omega
                            | true =>
                              have hp13 : dv = (j : Int) := by simpa using hd13
                              refine run_auto [(248, iV ((elI D j) * p.uh)), (249, iV ((nowS p D j) - ((elI D j) * p.uh))), (252, .bool true), (254, .bool true), (258, .bool true)] 31 [true] [1] [4, 8, 9, 20, 21, 26, 236, 237, 238, 260] [0, 1] (st' := ⟨[(4, pA b1), (8, .bool false), (9, iV m), (20, iV dv), (21, iV de), (26, iV ((nowS p D j) - ((elI D j) * p.uh))), (236, sV g k cap), (237, iV (k : Int)), (238, iV (j : Int)), (260, .bool true)], [(g, cO ((D).flatMap inR ++ sp) 3), (b1, aO #[iV p.ll, iV p.lh, iV p.ul, iV p.uh, .slice p.ea p.es.length p.ec] 26)]⟩) (acc := [(.bool (dv == (j : Int)), .bool true), (.bool (de == 0), .bool true), (.bool true, .bool true), (.bool (decide (((nowS p D j) - ((elI D j) * p.uh)) < m)), .bool true), (iV (IntKind.i64.wrap ((nowS p D j) - ((elI D j) * p.uh))), iV ((nowS p D j) - ((elI D j) * p.uh))), (iV (IntKind.i64.wrap ((elI D j) * p.uh)), iV ((elI D j) * p.uh)), (pA b1, pA b1)]) (by kernel_rfl) (by kernel_rfl) ⟨(bo hd13), (bo hd12), rfl, (bo hd11), (wr (by omega) (by omega)), (wr (by omega) (by omega)), rfl, trivial⟩ ?_
                              refine run_ret1 13 #[] (some 261) (.bool true) (by kernel_rfl) (fun w1 k1 h1 => awake_any w1) ?_
                              refine run_auto [] 3 [] [] [4, 8, 9, 20, 21, 26, 236, 237, 238] [0, 1] (st' := ⟨[(4, pA b1), (8, .bool true), (9, iV m), (20, iV dv), (21, iV de), (26, iV ((nowS p D j) - ((elI D j) * p.uh))), (236, sV g k cap), (237, iV (k : Int)), (238, iV (j : Int))], [(g, cO ((D).flatMap inR ++ sp) 3), (b1, aO #[iV p.ll, iV p.lh, iV p.ul, iV p.uh, .slice p.ea p.es.length p.ec] 26)]⟩) (acc := []) (by kernel_rfl) (by kernel_rfl) trivial ?_
                              refine run_end (fn := f7) rfl (Nat.le_refl _) (by kernel_rfl) [] [.bool true] (e := []) (by kernel_rfl) trivial (fun w1 k1 h1 => ?_)
                              exact ⟨rfl, k1.keeps (fun _ h => h)⟩
                    | true =>
                      have hp9 : ¬ uv = 0 := by simpa using hd9
                      exfalso
                      omega
                  | true =>
                    have hp8 : ¬ ue = 4 := by simpa using hd8
                    exfalso
                    omega
              | true =>
                have hp6 := of_decide_eq_true hd6
                exfalso
                omega
            | true =>
              have hp5 : ue = 0 := by simpa using hd5
              cases hd6 : (decide (m ≤ (mC p.n p.es.length).1)) with
              | false =>
                have hp6 := of_decide_eq_false hd6
                exfalso
                omega
              | true =>
                have hp6 := of_decide_eq_true hd6
                cases hd7 : (ue != 0) with
                | false =>
                  have hp7 : ue = 0 := by simpa using hd7
                  cases hd8 : (ve != 0) with
                  | false =>
                    have hp8 : ve = 0 := by simpa using hd8
                    cases hd9 : (decide (vv < uv)) with
                    | false =>
                      have hp9 := of_decide_eq_false hd9
                      cases hd10 : (decide (uv < 0)) with
                      | false =>
                        have hp10 := of_decide_eq_false hd10
                        cases hd11 : (decide (100 < uv)) with
                        | false =>
                          have hp11 := of_decide_eq_false hd11
                          cases hd12 : (decide (((mC p.n p.es.length).1 - (uv * p.uh)) < m)) with
                          | false =>
                            have hp12 := of_decide_eq_false hd12
                            cases hd13 : (decide (uv < 100)) with
                            | false =>
                              have hp13 := of_decide_eq_false hd13
                              refine run_auto [(127, .bool false), (164, .bool true), (168, .bool true), (169, .bool false), (172, .bool false), (184, .bool true), (187, .bool false), (191, .bool false), (196, .bool true), (199, .bool false), (202, .bool false), (211, iV (uv * p.uh)), (212, iV ((mC p.n p.es.length).1 - (uv * p.uh))), (214, .bool false), (218, .bool false)] 104 [false, false, false] [0, 0, 2, 0] [4, 8, 9, 20, 21, 26, 236, 237, 238] [1, 2] (st' := ⟨[(4, pA b1), (8, .bool false), (9, iV m), (20, iV dv), (21, iV de), (26, iV (mC p.n p.es.length).1), (236, sV g k cap), (237, iV (k : Int)), (238, iV 0)], [(g, cO ((D).flatMap inR ++ sp) 3), (b1, aO #[iV p.ll, iV p.lh, iV p.ul, iV p.uh, .slice p.ea p.es.length p.ec] 26)]⟩) (acc := [(pA b2, pA b2), (.bool false, .bool false), (.bool (decide (uv < 100)), .bool false), (.bool (decide (((mC p.n p.es.length).1 - (uv * p.uh)) < m)), .bool false), (iV (IntKind.i64.wrap ((mC p.n p.es.length).1 - (uv * p.uh))), iV ((mC p.n p.es.length).1 - (uv * p.uh))), (iV (IntKind.i64.wrap (uv * p.uh)), iV (uv * p.uh)), (pA b1, pA b1), (pA b2, pA b2), (.bool (decide (100 < uv)), .bool false), (.bool (decide (uv < 0)), .bool false), (.bool (ue == 0), .bool true), (.bool false, .bool false), (.bool (decide (vv < uv)), .bool false), (.bool (ve != 0), .bool false), (.bool (ue == 0), .bool true), (.bool (ue != 0), .bool false), (.bool false, .bool false), (.bool (decide (m ≤ (mC p.n p.es.length).1)), .bool true), (pA b2, pA b2), (.bool (ue == 0), .bool true), (.bool false, .bool false), (.bool (decide ((q : Int) < (p.es.length : Int))), .bool false)]) (by kernel_rfl) (by kernel_rfl) ⟨rfl, rfl, (bo hd13), (bo hd12), (wr (by omega) (by omega)), (wr (by omega) (by omega)), rfl, rfl, (bo hd11), (bo hd10), (bo hd5), rfl, (bo hd9), (bo hd8), (bo hd5), (bo hd7), rfl, (bo hd6), rfl, (bo hd5), rfl, (bo hd4), trivial⟩ ?_
                              refine run_auto [] 0 [] [] [4, 8, 9, 20, 21, 26, 236, 237, 238] [0, 1] (st' := ⟨[(4, pA b1), (8, .bool false), (9, iV m), (20, iV dv), (21, iV de), (26, iV (mC p.n p.es.length).1), (236, sV g k cap), (237, iV (k : Int)), (238, iV 0)], [(g, cO ((D).flatMap inR ++ sp) 3), (b1, aO #[iV p.ll, iV p.lh, iV p.ul, iV p.uh, .slice p.ea p.es.length p.ec] 26)]⟩) (acc := []) (by kernel_rfl) (by kernel_rfl) trivial ?_
                              refine run_loop (S := fun (j : Nat) => ⟨[(4, pA b1), (8, .bool false), (9, iV m), (20, iV dv), (21, iV de), (26, iV (nowS p D j)), (236, sV g k cap), (237, iV (k : Int)), (238, iV (j : Int))], [(g, cO ((D).flatMap inR ++ sp) 3), (b1, aO #[iV p.ll, iV p.lh, iV p.ul, iV p.uh, .slice p.ea p.es.length p.ec] 26)]⟩) (fun j => j ≤ k ∧ ∀ q, q < j → m ≤ nowS p D (q + 1)) (fun j => k - j) (0) (by kernel_rfl) (⟨Nat.zero_le _, fun q h => by cases h⟩) (by simp [now_zero]) (fun j hI2 J2 hJ2 => ?_)
                              obtain ⟨hj1, hj2⟩ := hI2
                              have hnb := now_bd hF hD10 hDv (i := j) (by omega)
                              cases hd14 : (decide ((j : Int) < (k : Int))) with
                              | false =>
                                have hp14 := of_decide_eq_false hd14
                                have hdone := hY.done (fun q hq => hj2 q (by omega))
                                cases hd15 : (de == 4) with
                                | false =>
                                  have hp15 : ¬ de = 4 := by simpa using hd15
                                  exfalso
                                  omega
                                | true =>
                                  have hp15 : de = 4 := by simpa using hd15
                                  cases hd16 : (dv == 0) with
                                  | false =>
                                    have hp16 : ¬ dv = 0 := by simpa using hd16
                                    exfalso
                                    omega
                                  | true =>
                                    have hp16 : dv = 0 := by simpa using hd16
                                    refine run_auto [(239, .bool false), (265, .bool true), (268, .bool true)] 16 [false] [] [8, 270] [] (st' := ⟨[(8, .bool false), (270, .bool true)], []⟩) (acc := [(.bool (dv == 0), .bool true), (.bool (de == 4), .bool true), (.bool false, .bool false), (.bool (decide ((j : Int) < (k : Int))), .bool false)]) (by kernel_rfl) (by kernel_rfl) ⟨(bo hd16), (bo hd15), rfl, (bo hd14), trivial⟩ ?_
                                    refine run_ret1 13 #[] (some 271) (.bool true) (by kernel_rfl) (fun w1 k1 h1 => awake_any w1) ?_
                                    refine run_auto [] 3 [] [] [8] [] (st' := ⟨[(8, .bool true)], []⟩) (acc := []) (by kernel_rfl) (by kernel_rfl) trivial ?_
                                    refine run_end (fn := f7) rfl (Nat.le_refl _) (by kernel_rfl) [] [.bool true] (e := []) (by kernel_rfl) trivial (fun w1 k1 h1 => ?_)
                                    exact ⟨rfl, k1.keeps (fun _ h => h)⟩
                              | true =>
                                have hp14 := of_decide_eq_true hd14
                                have hjk : j < k := by omega
                                have hjb := use_of hDv (i := j) (by omega)
                                have hjm : 0 ≤ elI D j * p.uh ∧ elI D j * p.uh ≤ 60 := ⟨Int.mul_nonneg hjb.1 (by omega), by have := Int.mul_le_mul hjb.2 hu0.2.2 (by omega) (by omega : (0 : Int) ≤ 20); omega⟩
                                refine run_auto [(239, .bool true)] 12 [true] [] [4, 8, 9, 20, 21, 26, 236, 237, 238, 240] [0, 1] (st' := ⟨[(4, pA b1), (8, .bool false), (9, iV m), (20, iV dv), (21, iV de), (26, iV (nowS p D j)), (236, sV g k cap), (237, iV (k : Int)), (238, iV (j : Int)), (240, iV (j : Int))], [(g, cO ((D).flatMap inR ++ sp) 3), (b1, aO #[iV p.ll, iV p.lh, iV p.ul, iV p.uh, .slice p.ea p.es.length p.ec] 26)]⟩) (acc := [(.bool true, .bool true), (.bool (decide ((j : Int) < (k : Int))), .bool true)]) (by kernel_rfl) (by kernel_rfl) ⟨rfl, (bo hd14), trivial⟩ ?_
                                refine run_v (Instr.indexAt 38 (sV g k cap) (iV (j : Int)) >>= fun v => pure (Next.value v)) (some 241) (.pointer (some ⟨g, j, none⟩)) (by kernel_rfl) (fun w1 k1 h1 => idx_off (e := 3) (n := 1) (by kernel_rfl) (by kernel_rfl) g (0) k cap .i64 j (by omega) (j) (by omega) w1) ?_
                                refine run_v (Instr.loadAt 3 (.pointer (some ⟨g, j, none⟩)) >>= fun v => pure (Next.value v)) (some 242) (iV (elI D j)) (by kernel_rfl) (fun w1 k1 h1 => load_own (e := 3) (fr := (0, 0)) (c := (D).flatMap inR ++ sp) h1 (List.mem_of_getElem? (i := 0) (by kernel_rfl)) (flat_loadF (c := inR) (n := 1) inR_len (by kernel_rfl) (i := j) (k := 0) (by first | omega | (simp; omega)) (by rw [inR_at (by first | omega | (simp; omega))]; rfl) (by omega))) ?_
                                cases hd15 : (decide (((nowS p D j) - ((elI D j) * p.uh)) < m)) with
                                | false =>
                                  have hp15 := of_decide_eq_false hd15
                                  have hnx := now_next (p := p) (i := j) (D := D) (by omega)
                                  refine run_auto [(248, iV ((elI D j) * p.uh)), (249, iV ((nowS p D j) - ((elI D j) * p.uh))), (252, .bool false), (263, iV ((j + 1 : Nat) : Int))] 27 [false] [1] [4, 8, 9, 20, 21, 26, 236, 237, 238] [0, 1] (st' := ⟨[(4, pA b1), (8, .bool false), (9, iV m), (20, iV dv), (21, iV de), (26, iV ((nowS p D j) - ((elI D j) * p.uh))), (236, sV g k cap), (237, iV (k : Int)), (238, iV ((j + 1 : Nat) : Int))], [(g, cO ((D).flatMap inR ++ sp) 3), (b1, aO #[iV p.ll, iV p.lh, iV p.ul, iV p.uh, .slice p.ea p.es.length p.ec] 26)]⟩) (acc := [(iV (IntKind.i64.wrap ((j : Int) + 1)), iV ((j + 1 : Nat) : Int)), (.bool false, .bool false), (.bool (decide (((nowS p D j) - ((elI D j) * p.uh)) < m)), .bool false), (iV (IntKind.i64.wrap ((nowS p D j) - ((elI D j) * p.uh))), iV ((nowS p D j) - ((elI D j) * p.uh))), (iV (IntKind.i64.wrap ((elI D j) * p.uh)), iV ((elI D j) * p.uh)), (pA b1, pA b1)]) (by kernel_rfl) (by kernel_rfl) ⟨(wr (by omega) (by omega)), rfl, (bo hd15), (wr (by omega) (by omega)), (wr (by omega) (by omega)), rfl, trivial⟩ ?_
                                  have hj := hJ2 (j + 1) (⟨by omega, fun q hq => (Nat.lt_succ_iff_lt_or_eq.1 hq).elim (hj2 q) (fun h => by rw [h]; omega)⟩) (by omega)
                                  rw [now_next (by omega)] at hj
                                  exact run_round (by kernel_rfl) hj
                                | true =>
                                  have hp15 := of_decide_eq_true hd15
                                  have hnx := now_next (p := p) (i := j) (D := D) (by omega)
                                  have hit := hY.hit (j := j) (by omega) (by omega) hj2
                                  cases hd16 : (de == 0) with
                                  | false =>
                                    have hp16 : ¬ de = 0 := by simpa using hd16
                                    exfalso
                                    omega
                                  | true =>
                                    have hp16 : de = 0 := by simpa using hd16
                                    cases hd17 : (dv == (j : Int)) with
                                    | false =>
                                      have hp17 : ¬ dv = (j : Int) := by simpa using hd17
                                      exfalso
                                      omega
                                    | true =>
                                      have hp17 : dv = (j : Int) := by simpa using hd17
                                      refine run_auto [(248, iV ((elI D j) * p.uh)), (249, iV ((nowS p D j) - ((elI D j) * p.uh))), (252, .bool true), (254, .bool true), (258, .bool true)] 31 [true] [1] [4, 8, 9, 20, 21, 26, 236, 237, 238, 260] [0, 1] (st' := ⟨[(4, pA b1), (8, .bool false), (9, iV m), (20, iV dv), (21, iV de), (26, iV ((nowS p D j) - ((elI D j) * p.uh))), (236, sV g k cap), (237, iV (k : Int)), (238, iV (j : Int)), (260, .bool true)], [(g, cO ((D).flatMap inR ++ sp) 3), (b1, aO #[iV p.ll, iV p.lh, iV p.ul, iV p.uh, .slice p.ea p.es.length p.ec] 26)]⟩) (acc := [(.bool (dv == (j : Int)), .bool true), (.bool (de == 0), .bool true), (.bool true, .bool true), (.bool (decide (((nowS p D j) - ((elI D j) * p.uh)) < m)), .bool true), (iV (IntKind.i64.wrap ((nowS p D j) - ((elI D j) * p.uh))), iV ((nowS p D j) - ((elI D j) * p.uh))), (iV (IntKind.i64.wrap ((elI D j) * p.uh)), iV ((elI D j) * p.uh)), (pA b1, pA b1)]) (by kernel_rfl) (by kernel_rfl) ⟨(bo hd17), (bo hd16), rfl, (bo hd15), (wr (by omega) (by omega)), (wr (by omega) (by omega)), rfl, trivial⟩ ?_
                                      refine run_ret1 13 #[] (some 261) (.bool true) (by kernel_rfl) (fun w1 k1 h1 => awake_any w1) ?_
                                      refine run_auto [] 3 [] [] [4, 8, 9, 20, 21, 26, 236, 237, 238] [0, 1] (st' := ⟨[(4, pA b1), (8, .bool true), (9, iV m), (20, iV dv), (21, iV de), (26, iV ((nowS p D j) - ((elI D j) * p.uh))), (236, sV g k cap), (237, iV (k : Int)), (238, iV (j : Int))], [(g, cO ((D).flatMap inR ++ sp) 3), (b1, aO #[iV p.ll, iV p.lh, iV p.ul, iV p.uh, .slice p.ea p.es.length p.ec] 26)]⟩) (acc := []) (by kernel_rfl) (by kernel_rfl) trivial ?_
                                      refine run_end (fn := f7) rfl (Nat.le_refl _) (by kernel_rfl) [] [.bool true] (e := []) (by kernel_rfl) trivial (fun w1 k1 h1 => ?_)
                                      exact ⟨rfl, k1.keeps (fun _ h => h)⟩
                            | true =>
                              have hp13 := of_decide_eq_true hd13
                              cases hd14 : (decide (m ≤ ((mC p.n p.es.length).1 - ((uv + 1) * p.uh)))) with
                              | false =>
                                have hp14 := of_decide_eq_false hd14
                                refine run_auto [(127, .bool false), (164, .bool true), (168, .bool true), (169, .bool false), (172, .bool false), (184, .bool true), (187, .bool false), (191, .bool false), (196, .bool true), (199, .bool false), (202, .bool false), (211, iV (uv * p.uh)), (212, iV ((mC p.n p.es.length).1 - (uv * p.uh))), (214, .bool false), (218, .bool true), (223, iV (uv + 1)), (227, iV ((uv + 1) * p.uh)), (228, iV ((mC p.n p.es.length).1 - ((uv + 1) * p.uh))), (230, .bool false)] 104 [false, false, false] [0, 0, 2, 0, 2, 0] [4, 8, 9, 20, 21, 26, 236, 237, 238] [1, 2] (st' := ⟨[(4, pA b1), (8, .bool false), (9, iV m), (20, iV dv), (21, iV de), (26, iV (mC p.n p.es.length).1), (236, sV g k cap), (237, iV (k : Int)), (238, iV 0)], [(g, cO ((D).flatMap inR ++ sp) 3), (b1, aO #[iV p.ll, iV p.lh, iV p.ul, iV p.uh, .slice p.ea p.es.length p.ec] 26)]⟩) (acc := [(pA b2, pA b2), (.bool false, .bool false), (.bool (decide (m ≤ ((mC p.n p.es.length).1 - ((uv + 1) * p.uh)))), .bool false), (iV (IntKind.i64.wrap ((mC p.n p.es.length).1 - ((uv + 1) * p.uh))), iV ((mC p.n p.es.length).1 - ((uv + 1) * p.uh))), (iV (IntKind.i64.wrap ((uv + 1) * p.uh)), iV ((uv + 1) * p.uh)), (pA b1, pA b1), (iV (IntKind.i64.wrap (uv + 1)), iV (uv + 1)), (pA b2, pA b2), (.bool (decide (uv < 100)), .bool true), (.bool (decide (((mC p.n p.es.length).1 - (uv * p.uh)) < m)), .bool false), (iV (IntKind.i64.wrap ((mC p.n p.es.length).1 - (uv * p.uh))), iV ((mC p.n p.es.length).1 - (uv * p.uh))), (iV (IntKind.i64.wrap (uv * p.uh)), iV (uv * p.uh)), (pA b1, pA b1), (pA b2, pA b2), (.bool (decide (100 < uv)), .bool false), (.bool (decide (uv < 0)), .bool false), (.bool (ue == 0), .bool true), (.bool false, .bool false), (.bool (decide (vv < uv)), .bool false), (.bool (ve != 0), .bool false), (.bool (ue == 0), .bool true), (.bool (ue != 0), .bool false), (.bool false, .bool false), (.bool (decide (m ≤ (mC p.n p.es.length).1)), .bool true), (pA b2, pA b2), (.bool (ue == 0), .bool true), (.bool false, .bool false), (.bool (decide ((q : Int) < (p.es.length : Int))), .bool false)]) (by kernel_rfl) (by kernel_rfl) ⟨rfl, rfl, (bo hd14), (wr (by omega) (by omega)), (wr (by omega) (by omega)), rfl, (wr (by omega) (by omega)), rfl, (bo hd13), (bo hd12), (wr (by omega) (by omega)), (wr (by omega) (by omega)), rfl, rfl, (bo hd11), (bo hd10), (bo hd5), rfl, (bo hd9), (bo hd8), (bo hd5), (bo hd7), rfl, (bo hd6), rfl, (bo hd5), rfl, (bo hd4), trivial⟩ ?_
                                refine run_auto [] 0 [] [] [4, 8, 9, 20, 21, 26, 236, 237, 238] [0, 1] (st' := ⟨[(4, pA b1), (8, .bool false), (9, iV m), (20, iV dv), (21, iV de), (26, iV (mC p.n p.es.length).1), (236, sV g k cap), (237, iV (k : Int)), (238, iV 0)], [(g, cO ((D).flatMap inR ++ sp) 3), (b1, aO #[iV p.ll, iV p.lh, iV p.ul, iV p.uh, .slice p.ea p.es.length p.ec] 26)]⟩) (acc := []) (by kernel_rfl) (by kernel_rfl) trivial ?_
                                refine run_loop (S := fun (j : Nat) => ⟨[(4, pA b1), (8, .bool false), (9, iV m), (20, iV dv), (21, iV de), (26, iV (nowS p D j)), (236, sV g k cap), (237, iV (k : Int)), (238, iV (j : Int))], [(g, cO ((D).flatMap inR ++ sp) 3), (b1, aO #[iV p.ll, iV p.lh, iV p.ul, iV p.uh, .slice p.ea p.es.length p.ec] 26)]⟩) (fun j => j ≤ k ∧ ∀ q, q < j → m ≤ nowS p D (q + 1)) (fun j => k - j) (0) (by kernel_rfl) (⟨Nat.zero_le _, fun q h => by cases h⟩) (by simp [now_zero]) (fun j hI2 J2 hJ2 => ?_)
                                obtain ⟨hj1, hj2⟩ := hI2
                                have hnb := now_bd hF hD10 hDv (i := j) (by omega)
                                cases hd15 : (decide ((j : Int) < (k : Int))) with
                                | false =>
                                  have hp15 := of_decide_eq_false hd15
                                  have hdone := hY.done (fun q hq => hj2 q (by omega))
                                  cases hd16 : (de == 4) with
                                  | false =>
                                    have hp16 : ¬ de = 4 := by simpa using hd16
                                    exfalso
                                    omega
                                  | true =>
                                    have hp16 : de = 4 := by simpa using hd16
                                    cases hd17 : (dv == 0) with
                                    | false =>
                                      have hp17 : ¬ dv = 0 := by simpa using hd17
                                      exfalso
                                      omega
                                    | true =>
                                      have hp17 : dv = 0 := by simpa using hd17
                                      refine run_auto [(239, .bool false), (265, .bool true), (268, .bool true)] 16 [false] [] [8, 270] [] (st' := ⟨[(8, .bool false), (270, .bool true)], []⟩) (acc := [(.bool (dv == 0), .bool true), (.bool (de == 4), .bool true), (.bool false, .bool false), (.bool (decide ((j : Int) < (k : Int))), .bool false)]) (by kernel_rfl) (by kernel_rfl) ⟨(bo hd17), (bo hd16), rfl, (bo hd15), trivial⟩ ?_
                                      refine run_ret1 13 #[] (some 271) (.bool true) (by kernel_rfl) (fun w1 k1 h1 => awake_any w1) ?_
                                      refine run_auto [] 3 [] [] [8] [] (st' := ⟨[(8, .bool true)], []⟩) (acc := []) (by kernel_rfl) (by kernel_rfl) trivial ?_
                                      refine run_end (fn := f7) rfl (Nat.le_refl _) (by kernel_rfl) [] [.bool true] (e := []) (by kernel_rfl) trivial (fun w1 k1 h1 => ?_)
                                      exact ⟨rfl, k1.keeps (fun _ h => h)⟩
                                | true =>
                                  have hp15 := of_decide_eq_true hd15
                                  have hjk : j < k := by omega
                                  have hjb := use_of hDv (i := j) (by omega)
                                  have hjm : 0 ≤ elI D j * p.uh ∧ elI D j * p.uh ≤ 60 := ⟨Int.mul_nonneg hjb.1 (by omega), by have := Int.mul_le_mul hjb.2 hu0.2.2 (by omega) (by omega : (0 : Int) ≤ 20); omega⟩
                                  refine run_auto [(239, .bool true)] 12 [true] [] [4, 8, 9, 20, 21, 26, 236, 237, 238, 240] [0, 1] (st' := ⟨[(4, pA b1), (8, .bool false), (9, iV m), (20, iV dv), (21, iV de), (26, iV (nowS p D j)), (236, sV g k cap), (237, iV (k : Int)), (238, iV (j : Int)), (240, iV (j : Int))], [(g, cO ((D).flatMap inR ++ sp) 3), (b1, aO #[iV p.ll, iV p.lh, iV p.ul, iV p.uh, .slice p.ea p.es.length p.ec] 26)]⟩) (acc := [(.bool true, .bool true), (.bool (decide ((j : Int) < (k : Int))), .bool true)]) (by kernel_rfl) (by kernel_rfl) ⟨rfl, (bo hd15), trivial⟩ ?_
                                  refine run_v (Instr.indexAt 38 (sV g k cap) (iV (j : Int)) >>= fun v => pure (Next.value v)) (some 241) (.pointer (some ⟨g, j, none⟩)) (by kernel_rfl) (fun w1 k1 h1 => idx_off (e := 3) (n := 1) (by kernel_rfl) (by kernel_rfl) g (0) k cap .i64 j (by omega) (j) (by omega) w1) ?_
                                  refine run_v (Instr.loadAt 3 (.pointer (some ⟨g, j, none⟩)) >>= fun v => pure (Next.value v)) (some 242) (iV (elI D j)) (by kernel_rfl) (fun w1 k1 h1 => load_own (e := 3) (fr := (0, 0)) (c := (D).flatMap inR ++ sp) h1 (List.mem_of_getElem? (i := 0) (by kernel_rfl)) (flat_loadF (c := inR) (n := 1) inR_len (by kernel_rfl) (i := j) (k := 0) (by first | omega | (simp; omega)) (by rw [inR_at (by first | omega | (simp; omega))]; rfl) (by omega))) ?_
                                  cases hd16 : (decide (((nowS p D j) - ((elI D j) * p.uh)) < m)) with
                                  | false =>
                                    have hp16 := of_decide_eq_false hd16
                                    have hnx := now_next (p := p) (i := j) (D := D) (by omega)
                                    refine run_auto [(248, iV ((elI D j) * p.uh)), (249, iV ((nowS p D j) - ((elI D j) * p.uh))), (252, .bool false), (263, iV ((j + 1 : Nat) : Int))] 27 [false] [1] [4, 8, 9, 20, 21, 26, 236, 237, 238] [0, 1] (st' := ⟨[(4, pA b1), (8, .bool false), (9, iV m), (20, iV dv), (21, iV de), (26, iV ((nowS p D j) - ((elI D j) * p.uh))), (236, sV g k cap), (237, iV (k : Int)), (238, iV ((j + 1 : Nat) : Int))], [(g, cO ((D).flatMap inR ++ sp) 3), (b1, aO #[iV p.ll, iV p.lh, iV p.ul, iV p.uh, .slice p.ea p.es.length p.ec] 26)]⟩) (acc := [(iV (IntKind.i64.wrap ((j : Int) + 1)), iV ((j + 1 : Nat) : Int)), (.bool false, .bool false), (.bool (decide (((nowS p D j) - ((elI D j) * p.uh)) < m)), .bool false), (iV (IntKind.i64.wrap ((nowS p D j) - ((elI D j) * p.uh))), iV ((nowS p D j) - ((elI D j) * p.uh))), (iV (IntKind.i64.wrap ((elI D j) * p.uh)), iV ((elI D j) * p.uh)), (pA b1, pA b1)]) (by kernel_rfl) (by kernel_rfl) ⟨(wr (by omega) (by omega)), rfl, (bo hd16), (wr (by omega) (by omega)), (wr (by omega) (by omega)), rfl, trivial⟩ ?_
                                    have hj := hJ2 (j + 1) (⟨by omega, fun q hq => (Nat.lt_succ_iff_lt_or_eq.1 hq).elim (hj2 q) (fun h => by rw [h]; omega)⟩) (by omega)
                                    rw [now_next (by omega)] at hj
                                    exact run_round (by kernel_rfl) hj
                                  | true =>
                                    have hp16 := of_decide_eq_true hd16
                                    have hnx := now_next (p := p) (i := j) (D := D) (by omega)
                                    have hit := hY.hit (j := j) (by omega) (by omega) hj2
                                    cases hd17 : (de == 0) with
                                    | false =>
                                      have hp17 : ¬ de = 0 := by simpa using hd17
                                      exfalso
                                      omega
                                    | true =>
                                      have hp17 : de = 0 := by simpa using hd17
                                      cases hd18 : (dv == (j : Int)) with
                                      | false =>
                                        have hp18 : ¬ dv = (j : Int) := by simpa using hd18
                                        exfalso
                                        omega
                                      | true =>
                                        have hp18 : dv = (j : Int) := by simpa using hd18
                                        refine run_auto [(248, iV ((elI D j) * p.uh)), (249, iV ((nowS p D j) - ((elI D j) * p.uh))), (252, .bool true), (254, .bool true), (258, .bool true)] 31 [true] [1] [4, 8, 9, 20, 21, 26, 236, 237, 238, 260] [0, 1] (st' := ⟨[(4, pA b1), (8, .bool false), (9, iV m), (20, iV dv), (21, iV de), (26, iV ((nowS p D j) - ((elI D j) * p.uh))), (236, sV g k cap), (237, iV (k : Int)), (238, iV (j : Int)), (260, .bool true)], [(g, cO ((D).flatMap inR ++ sp) 3), (b1, aO #[iV p.ll, iV p.lh, iV p.ul, iV p.uh, .slice p.ea p.es.length p.ec] 26)]⟩) (acc := [(.bool (dv == (j : Int)), .bool true), (.bool (de == 0), .bool true), (.bool true, .bool true), (.bool (decide (((nowS p D j) - ((elI D j) * p.uh)) < m)), .bool true), (iV (IntKind.i64.wrap ((nowS p D j) - ((elI D j) * p.uh))), iV ((nowS p D j) - ((elI D j) * p.uh))), (iV (IntKind.i64.wrap ((elI D j) * p.uh)), iV ((elI D j) * p.uh)), (pA b1, pA b1)]) (by kernel_rfl) (by kernel_rfl) ⟨(bo hd18), (bo hd17), rfl, (bo hd16), (wr (by omega) (by omega)), (wr (by omega) (by omega)), rfl, trivial⟩ ?_
                                        refine run_ret1 13 #[] (some 261) (.bool true) (by kernel_rfl) (fun w1 k1 h1 => awake_any w1) ?_
                                        refine run_auto [] 3 [] [] [4, 8, 9, 20, 21, 26, 236, 237, 238] [0, 1] (st' := ⟨[(4, pA b1), (8, .bool true), (9, iV m), (20, iV dv), (21, iV de), (26, iV ((nowS p D j) - ((elI D j) * p.uh))), (236, sV g k cap), (237, iV (k : Int)), (238, iV (j : Int))], [(g, cO ((D).flatMap inR ++ sp) 3), (b1, aO #[iV p.ll, iV p.lh, iV p.ul, iV p.uh, .slice p.ea p.es.length p.ec] 26)]⟩) (acc := []) (by kernel_rfl) (by kernel_rfl) trivial ?_
                                        refine run_end (fn := f7) rfl (Nat.le_refl _) (by kernel_rfl) [] [.bool true] (e := []) (by kernel_rfl) trivial (fun w1 k1 h1 => ?_)
                                        exact ⟨rfl, k1.keeps (fun _ h => h)⟩
                              | true =>
                                have hp14 := of_decide_eq_true hd14
                                exfalso
                                omega
                          | true =>
                            have hp12 := of_decide_eq_true hd12
                            exfalso
                            omega
                        | true =>
                          have hp11 := of_decide_eq_true hd11
                          exfalso
                          omega
                      | true =>
                        have hp10 := of_decide_eq_true hd10
                        exfalso
                        omega
                    | true =>
                      have hp9 := of_decide_eq_true hd9
                      exfalso
                      omega
                  | true =>
                    have hp8 : ¬ ve = 0 := by simpa using hd8
                    exfalso
                    omega
                | true =>
                  have hp7 : ¬ ue = 0 := by simpa using hd7
                  exfalso
                  omega
          | true =>
            have hp4 := of_decide_eq_true hd4
            have hql : q < p.es.length := by omega
            have hbit := bel_bit (w := p.n) (m := m) hql
            have hqb := mC_bd hF (show q + 1 ≤ p.es.length from hql)
            unfold bdS at hqb
            refine run_auto [(127, .bool true)] 18 [true] [2] [4, 8, 9, 10, 11, 13, 14, 15, 16, 17, 20, 21, 22, 125, 126, 23, 130, 131] [0, 1, 2] (st' := ⟨[(4, pA b1), (8, .bool false), (9, iV m), (10, iV ((belS p.n m p.es.length : Nat) : Int)), (11, iV ((belP p.n m p.es.length : Nat) : Int)), (13, iV uv), (14, iV ue), (15, iV vv), (16, iV ve), (17, sV g k cap), (20, iV dv), (21, iV de), (22, pA b2), (125, iV (p.es.length : Int)), (126, iV (q : Int)), (23, iV (q : Int)), (130, .agg #[iV p.ll, iV p.lh, iV p.ul, iV p.uh, .slice p.ea p.es.length p.ec]), (131, iV (q : Int))], [(b2, aO #[iV (lstS p q).1, iV (lstS p q).2] 23), (g, cO ((D).flatMap inR ++ sp) 3), (b1, aO #[iV p.ll, iV p.lh, iV p.ul, iV p.uh, .slice p.ea p.es.length p.ec] 26)]⟩) (acc := [(pA b1, pA b1), (.bool true, .bool true), (.bool (decide ((q : Int) < (p.es.length : Int))), .bool true)]) (by kernel_rfl) (by kernel_rfl) ⟨rfl, rfl, (bo hd4), trivial⟩ ?_
            refine run_ret1 14 #[.agg #[iV p.ll, iV p.lh, iV p.ul, iV p.uh, .slice p.ea p.es.length p.ec], iV (q : Int)] (some 132) (.tuple #[.agg #[iV ((mC p.n (q + 1)).1), iV ((mC p.n (q + 1)).2)], iV 0]) (by kernel_rfl) (fun w1 k1 h1 => (by have h := After_any p (q : Int) w1 (hp.keep (k1.keeps (fun _ h => h))); rw [show afterR p (q : Int) = .inr (mC p.n (q + 1)) from by unfold afterR; rw [hok, decide_eq_true (show 0 ≤ (q : Int) ∧ (q : Int) < (p.es.length : Int) by omega), hd2]; rfl] at h; exact h)) ?_
            refine run_auto [] 3 [] [] [4, 8, 9, 10, 11, 13, 14, 15, 16, 17, 20, 21, 22, 125, 126, 23, 133, 134] [0, 1, 2] (st' := ⟨[(4, pA b1), (8, .bool false), (9, iV m), (10, iV ((belS p.n m p.es.length : Nat) : Int)), (11, iV ((belP p.n m p.es.length : Nat) : Int)), (13, iV uv), (14, iV ue), (15, iV vv), (16, iV ve), (17, sV g k cap), (20, iV dv), (21, iV de), (22, pA b2), (125, iV (p.es.length : Int)), (126, iV (q : Int)), (23, iV (q : Int)), (133, .agg #[iV ((mC p.n (q + 1)).1), iV ((mC p.n (q + 1)).2)]), (134, iV 0)], [(b2, aO #[iV (lstS p q).1, iV (lstS p q).2] 23), (g, cO ((D).flatMap inR ++ sp) 3), (b1, aO #[iV p.ll, iV p.lh, iV p.ul, iV p.uh, .slice p.ea p.es.length p.ec] 26)]⟩) (acc := []) (by kernel_rfl) (by kernel_rfl) trivial ?_
            refine run_new (aO #[iV 0, iV 0] 23) (fun b3 => pA b3) (some 24) (fun _ => by kernel_rfl) (fun b3 hb3 => ?_)
            refine run_auto [] 5 [] [0] [4, 8, 9, 10, 11, 13, 14, 15, 16, 17, 20, 21, 22, 125, 126, 23, 24, 25] [0, 1, 2, 3] (st' := ⟨[(4, pA b1), (8, .bool false), (9, iV m), (10, iV ((belS p.n m p.es.length : Nat) : Int)), (11, iV ((belP p.n m p.es.length : Nat) : Int)), (13, iV uv), (14, iV ue), (15, iV vv), (16, iV ve), (17, sV g k cap), (20, iV dv), (21, iV de), (22, pA b2), (125, iV (p.es.length : Int)), (126, iV (q : Int)), (23, iV (q : Int)), (24, pA b3), (25, iV 0)], [(b3, aO #[iV ((mC p.n (q + 1)).1), iV ((mC p.n (q + 1)).2)] 23), (b2, aO #[iV (lstS p q).1, iV (lstS p q).2] 23), (g, cO ((D).flatMap inR ++ sp) 3), (b1, aO #[iV p.ll, iV p.lh, iV p.ul, iV p.uh, .slice p.ea p.es.length p.ec] 26)]⟩) (acc := [(pA b3, pA b3)]) (by kernel_rfl) (by kernel_rfl) ⟨rfl, trivial⟩ ?_
            cases hd5 : ((belS p.n m p.es.length : Nat).testBit q) with
            | false =>
              have hxhd5 := of_decide_eq_false (hbit.1.symm.trans hd5)
              cases hd6 : (decide (((mC p.n (q + 1)).2) < m)) with
              | false =>
                have hp6 := of_decide_eq_false hd6
                cases hd7 : ((belP p.n m p.es.length : Nat).testBit q) with
                | false =>
                  have hxhd7 := of_decide_eq_false (hbit.2.symm.trans hd7)
                  cases hd8 : (decide (((mC p.n (q + 1)).1) < m)) with
                  | false =>
                    have hp8 := of_decide_eq_false hd8
                    refine drawW 26 [{ val := fun _ => iV 0, slots := [25] },
                                          { val := fun _ => .bool false, slots := [135] },
                                          { val := fun _ => .bool false, slots := [136] },
                                          { val := fun _ => iV ((belS p.n m p.es.length : Nat) : Int), slots := [10, 137] },
                                          { val := fun _ => iV (q : Int), slots := [23, 137] },
                                          { val := fun _ => iV (((belS p.n m p.es.length : Nat) >>> q : Nat) : Int), slots := [137, 138, 139] },
                                          { val := fun _ => iV ((((belS p.n m p.es.length : Nat) >>> q : Nat) &&& 1 : Nat) : Int), slots := [137, 140] },
                                          { val := fun _ => .bool false, slots := [137, 141] },
                                          { val := fun _ => .pointer (some ⟨b3, 1, none⟩), slots := [24, 137] },
                                          { val := fun _ => iV ((mC p.n (q + 1)).2), slots := [137, 143], reads := [0] },
                                          { val := fun _ => iV m, slots := [9, 137] },
                                          { val := fun _ => .bool false, slots := [137, 144, 145] },
                                          { val := fun _ => .bool false, slots := [137, 142, 146] },
                                          { val := fun _ => .bool false, slots := [137, 147] },
                                          { val := fun _ => .bool false, slots := [148] },
                                          { val := fun _ => iV ((belP p.n m p.es.length : Nat) : Int), slots := [11, 149] },
                                          { val := fun _ => iV (q : Int), slots := [23, 149] },
                                          { val := fun _ => iV (((belP p.n m p.es.length : Nat) >>> q : Nat) : Int), slots := [149, 150, 151] },
                                          { val := fun _ => iV ((((belP p.n m p.es.length : Nat) >>> q : Nat) &&& 1 : Nat) : Int), slots := [149, 152] },
                                          { val := fun _ => .bool false, slots := [149, 153] },
                                          { val := fun _ => pA b3, slots := [24, 149] },
                                          { val := fun _ => iV ((mC p.n (q + 1)).1), slots := [149, 155], reads := [0] },
                                          { val := fun _ => iV m, slots := [9, 149] },
                                          { val := fun _ => .bool false, slots := [149, 156, 157] },
                                          { val := fun _ => .bool false, slots := [149, 154, 158] },
                                          { val := fun _ => .bool false, slots := [149, 159] }] [[], [0], [0, 1], [0, 1, 2], [0, 1, 2], [0, 1, 2, 3, 4], [0, 1, 2, 3, 4, 5], [0, 1, 2, 3, 4, 5, 6], [0, 1, 2], [0, 1, 2, 8], [0, 1, 2], [0, 1, 2, 8, 9, 10], [0, 1, 2, 3, 4, 5, 6, 7, 8, 9, 10, 11], [0, 1, 2, 3, 4, 5, 6, 7, 8, 9, 10, 11, 12], [0, 1, 2, 3, 4, 5, 6, 7, 8, 9, 10, 11, 12, 13], [0, 1, 2, 3, 4, 5, 6, 7, 8, 9, 10, 11, 12, 13, 14], [0, 1, 2, 3, 4, 5, 6, 7, 8, 9, 10, 11, 12, 13, 14], [0, 1, 2, 3, 4, 5, 6, 7, 8, 9, 10, 11, 12, 13, 14, 15, 16], [0, 1, 2, 3, 4, 5, 6, 7, 8, 9, 10, 11, 12, 13, 14, 15, 16, 17], [0, 1, 2, 3, 4, 5, 6, 7, 8, 9, 10, 11, 12, 13, 14, 15, 16, 17, 18], [0, 1, 2, 3, 4, 5, 6, 7, 8, 9, 10, 11, 12, 13, 14], [0, 1, 2, 3, 4, 5, 6, 7, 8, 9, 10, 11, 12, 13, 14, 20], [0, 1, 2, 3, 4, 5, 6, 7, 8, 9, 10, 11, 12, 13, 14], [0, 1, 2, 3, 4, 5, 6, 7, 8, 9, 10, 11, 12, 13, 14, 20, 21, 22], [0, 1, 2, 3, 4, 5, 6, 7, 8, 9, 10, 11, 12, 13, 14, 15, 16, 17, 18, 19, 20, 21, 22, 23], [0, 1, 2, 3, 4, 5, 6, 7, 8, 9, 10, 11, 12, 13, 14, 15, 16, 17, 18, 19, 20, 21, 22, 23, 24]] (by kernel_rfl) (by kernel_rfl) (by kernel_rfl) (by kernel_rfl) [4, 8, 9, 10, 11, 13, 14, 15, 16, 17, 20, 21, 22, 125, 126, 24, 160] [0, 1, 2, 3] (by kernel_rfl)
                                          ⟨⟨⟨⟨⟨⟨⟨⟨⟨⟨⟨⟨⟨⟨⟨⟨⟨⟨⟨⟨⟨⟨⟨⟨⟨⟨trivial,
                                          tri_quietW (fun β => []) [] [] (fun β => []) (by kernel_rfl) (fun β extra => by kernel_rfl) (by kernel_rfl) (fun β => trivial)⟩,
                                          tri_quietW (fun β => [(136, .bool false)]) [] [] (fun β => [(.bool false, .bool false)]) (by kernel_rfl) (fun β extra => by kernel_rfl) (by kernel_rfl) (fun β => ⟨rfl, trivial⟩)⟩,
                                          tri_quietW (fun β => []) [] [] (fun β => []) (by kernel_rfl) (fun β extra => by kernel_rfl) (by kernel_rfl) (fun β => trivial)⟩,
                                          tri_quietW (fun β => []) [] [] (fun β => []) (by kernel_rfl) (fun β extra => by kernel_rfl) (by kernel_rfl) (fun β => trivial)⟩,
                                          tri_quietW (fun β => []) [] [] (fun β => []) (by kernel_rfl) (fun β extra => by kernel_rfl) (by kernel_rfl) (fun β => trivial)⟩,
                                          tri_vVW (fun β => iV (((belS p.n m p.es.length : Nat) >>> q : Nat) : Int)) (fun β => by kernel_rfl) (fun β => (binOp .shr 3 (iV ((belS p.n m p.es.length : Nat) : Nat)) (iV (q : Nat)) >>= fun v => pure (Next.value v))) (by kernel_rfl) (fun β extra => by kernel_rfl) (fun β => by kernel_rfl) (fun β w1 k1 h1 => shr_run (belS p.n m p.es.length : Nat) q (by omega))⟩,
                                          tri_quietW (fun β => [(141, iV ((((belS p.n m p.es.length : Nat) >>> q : Nat) &&& 1 : Nat) : Int))]) [] [] (fun β => [(iV (bits .and .i64 (((belS p.n m p.es.length : Nat) >>> q : Nat) : Int) 1), iV ((((belS p.n m p.es.length : Nat) >>> q : Nat) &&& 1 : Nat) : Int))]) (by kernel_rfl) (fun β extra => by kernel_rfl) (by kernel_rfl) (fun β => ⟨(and_nat ((belS p.n m p.es.length : Nat) >>> q : Nat) 1 (by have := Nat.shiftRight_le (belS p.n m p.es.length : Nat) q; omega) (by omega)), trivial⟩)⟩,
                                          tri_quietW (fun β => [(142, .bool false)]) [] [] (fun β => [(.bool (((((belS p.n m p.es.length : Nat) >>> q : Nat) &&& 1 : Nat) : Int) == 1), .bool false)]) (by kernel_rfl) (fun β extra => by kernel_rfl) (by kernel_rfl) (fun β => ⟨((bo (has_bit (belS p.n m p.es.length : Nat) q)).trans (bo hd5)), trivial⟩)⟩,
                                          tri_quietW (fun β => []) [] [] (fun β => []) (by kernel_rfl) (fun β extra => by kernel_rfl) (by kernel_rfl) (fun β => trivial)⟩,
                                          tri_quietW (fun β => []) [0] [0] (fun β => [(pA b3, pA b3)]) (by kernel_rfl) (fun β extra => by kernel_rfl) (by kernel_rfl) (fun β => ⟨rfl, trivial⟩)⟩,
                                          tri_quietW (fun β => []) [] [] (fun β => []) (by kernel_rfl) (fun β extra => by kernel_rfl) (by kernel_rfl) (fun β => trivial)⟩,
                                          tri_quietW (fun β => [(146, .bool false)]) [] [] (fun β => [(.bool (decide (((mC p.n (q + 1)).2) < m)), .bool false)]) (by kernel_rfl) (fun β extra => by kernel_rfl) (by kernel_rfl) (fun β => ⟨(bo hd6), trivial⟩)⟩,
                                          tri_quietW (fun β => [(147, .bool false)]) [] [] (fun β => [(.bool false, .bool false)]) (by kernel_rfl) (fun β extra => by kernel_rfl) (by kernel_rfl) (fun β => ⟨rfl, trivial⟩)⟩,
                                          tri_quietW (fun β => []) [] [] (fun β => []) (by kernel_rfl) (fun β extra => by kernel_rfl) (by kernel_rfl) (fun β => trivial)⟩,
                                          tri_quietW (fun β => []) [] [] (fun β => []) (by kernel_rfl) (fun β extra => by kernel_rfl) (by kernel_rfl) (fun β => trivial)⟩,
                                          tri_quietW (fun β => []) [] [] (fun β => []) (by kernel_rfl) (fun β extra => by kernel_rfl) (by kernel_rfl) (fun β => trivial)⟩,
                                          tri_quietW (fun β => []) [] [] (fun β => []) (by kernel_rfl) (fun β extra => by kernel_rfl) (by kernel_rfl) (fun β => trivial)⟩,
                                          tri_vVW (fun β => iV (((belP p.n m p.es.length : Nat) >>> q : Nat) : Int)) (fun β => by kernel_rfl) (fun β => (binOp .shr 3 (iV ((belP p.n m p.es.length : Nat) : Nat)) (iV (q : Nat)) >>= fun v => pure (Next.value v))) (by kernel_rfl) (fun β extra => by kernel_rfl) (fun β => by kernel_rfl) (fun β w1 k1 h1 => shr_run (belP p.n m p.es.length : Nat) q (by omega))⟩,
                                          tri_quietW (fun β => [(153, iV ((((belP p.n m p.es.length : Nat) >>> q : Nat) &&& 1 : Nat) : Int))]) [] [] (fun β => [(iV (bits .and .i64 (((belP p.n m p.es.length : Nat) >>> q : Nat) : Int) 1), iV ((((belP p.n m p.es.length : Nat) >>> q : Nat) &&& 1 : Nat) : Int))]) (by kernel_rfl) (fun β extra => by kernel_rfl) (by kernel_rfl) (fun β => ⟨(and_nat ((belP p.n m p.es.length : Nat) >>> q : Nat) 1 (by have := Nat.shiftRight_le (belP p.n m p.es.length : Nat) q; omega) (by omega)), trivial⟩)⟩,
                                          tri_quietW (fun β => [(154, .bool false)]) [] [] (fun β => [(.bool (((((belP p.n m p.es.length : Nat) >>> q : Nat) &&& 1 : Nat) : Int) == 1), .bool false)]) (by kernel_rfl) (fun β extra => by kernel_rfl) (by kernel_rfl) (fun β => ⟨((bo (has_bit (belP p.n m p.es.length : Nat) q)).trans (bo hd7)), trivial⟩)⟩,
                                          tri_quietW (fun β => []) [] [] (fun β => []) (by kernel_rfl) (fun β extra => by kernel_rfl) (by kernel_rfl) (fun β => trivial)⟩,
                                          tri_quietW (fun β => []) [0] [0] (fun β => [(pA b3, pA b3)]) (by kernel_rfl) (fun β extra => by kernel_rfl) (by kernel_rfl) (fun β => ⟨rfl, trivial⟩)⟩,
                                          tri_quietW (fun β => []) [] [] (fun β => []) (by kernel_rfl) (fun β extra => by kernel_rfl) (by kernel_rfl) (fun β => trivial)⟩,
                                          tri_quietW (fun β => [(158, .bool false)]) [] [] (fun β => [(.bool (decide (((mC p.n (q + 1)).1) < m)), .bool false)]) (by kernel_rfl) (fun β extra => by kernel_rfl) (by kernel_rfl) (fun β => ⟨(bo hd8), trivial⟩)⟩,
                                          tri_quietW (fun β => [(159, .bool false)]) [] [] (fun β => [(.bool false, .bool false)]) (by kernel_rfl) (fun β extra => by kernel_rfl) (by kernel_rfl) (fun β => ⟨rfl, trivial⟩)⟩,
                                          tri_quietW (fun β => []) [] [] (fun β => []) (by kernel_rfl) (fun β extra => by kernel_rfl) (by kernel_rfl) (fun β => trivial)⟩
                                          (fun β => ⟨[(4, pA b1), (8, .bool false), (9, iV m), (10, iV ((belS p.n m p.es.length : Nat) : Int)), (11, iV ((belP p.n m p.es.length : Nat) : Int)), (13, iV uv), (14, iV ue), (15, iV vv), (16, iV ve), (17, sV g k cap), (20, iV dv), (21, iV de), (22, pA b2), (125, iV (p.es.length : Int)), (126, iV (q : Int)), (24, pA b3), (160, .bool false)], [(b3, aO #[iV ((mC p.n (q + 1)).1), iV ((mC p.n (q + 1)).2)] 23), (b2, aO #[iV (lstS p q).1, iV (lstS p q).2] 23), (g, cO ((D).flatMap inR ++ sp) 3), (b1, aO #[iV p.ll, iV p.lh, iV p.ul, iV p.uh, .slice p.ea p.es.length p.ec] 26)]⟩) (fun β => by kernel_rfl) (fun β4 => ?_)
                    refine run_auto [(162, iV ((q + 1 : Nat) : Int))] 11 [false] [0, 1] [4, 8, 9, 10, 11, 13, 14, 15, 16, 17, 20, 21, 22, 125, 126] [1, 2, 3] (st' := ⟨[(4, pA b1), (8, .bool false), (9, iV m), (10, iV ((belS p.n m p.es.length : Nat) : Int)), (11, iV ((belP p.n m p.es.length : Nat) : Int)), (13, iV uv), (14, iV ue), (15, iV vv), (16, iV ve), (17, sV g k cap), (20, iV dv), (21, iV de), (22, pA b2), (125, iV (p.es.length : Int)), (126, iV ((q + 1 : Nat) : Int))], [(b2, aO #[iV ((mC p.n (q + 1)).1), iV ((mC p.n (q + 1)).2)] 23), (g, cO ((D).flatMap inR ++ sp) 3), (b1, aO #[iV p.ll, iV p.lh, iV p.ul, iV p.uh, .slice p.ea p.es.length p.ec] 26)]⟩) (acc := [(iV (IntKind.i64.wrap ((q : Int) + 1)), iV ((q + 1 : Nat) : Int)), (pA b2, pA b2), (pA b3, pA b3), (.bool false, .bool false)]) (by kernel_rfl) (by kernel_rfl) ⟨(wr (by omega) (by omega)), rfl, rfl, rfl, trivial⟩ ?_
                    exact run_round (by kernel_rfl) (hJ1 (q + 1) (by omega) (by omega))
                  | true =>
                    have hp8 := of_decide_eq_true hd8
                    exfalso
                    omega
                | true =>
                  have hxhd7 := of_decide_eq_true (hbit.2.symm.trans hd7)
                  cases hd8 : (decide (((mC p.n (q + 1)).1) < m)) with
                  | false =>
                    have hp8 := of_decide_eq_false hd8
                    exfalso
                    omega
                  | true =>
                    have hp8 := of_decide_eq_true hd8
                    refine drawW 26 [{ val := fun _ => iV 0, slots := [25] },
                                          { val := fun _ => .bool false, slots := [135] },
                                          { val := fun _ => .bool false, slots := [136] },
                                          { val := fun _ => iV ((belS p.n m p.es.length : Nat) : Int), slots := [10, 137] },
                                          { val := fun _ => iV (q : Int), slots := [23, 137] },
                                          { val := fun _ => iV (((belS p.n m p.es.length : Nat) >>> q : Nat) : Int), slots := [137, 138, 139] },
                                          { val := fun _ => iV ((((belS p.n m p.es.length : Nat) >>> q : Nat) &&& 1 : Nat) : Int), slots := [137, 140] },
                                          { val := fun _ => .bool false, slots := [137, 141] },
                                          { val := fun _ => .pointer (some ⟨b3, 1, none⟩), slots := [24, 137] },
                                          { val := fun _ => iV ((mC p.n (q + 1)).2), slots := [137, 143], reads := [0] },
                                          { val := fun _ => iV m, slots := [9, 137] },
                                          { val := fun _ => .bool false, slots := [137, 144, 145] },
                                          { val := fun _ => .bool false, slots := [137, 142, 146] },
                                          { val := fun _ => .bool false, slots := [137, 147] },
                                          { val := fun _ => .bool false, slots := [148] },
                                          { val := fun _ => iV ((belP p.n m p.es.length : Nat) : Int), slots := [11, 149] },
                                          { val := fun _ => iV (q : Int), slots := [23, 149] },
                                          { val := fun _ => iV (((belP p.n m p.es.length : Nat) >>> q : Nat) : Int), slots := [149, 150, 151] },
                                          { val := fun _ => iV ((((belP p.n m p.es.length : Nat) >>> q : Nat) &&& 1 : Nat) : Int), slots := [149, 152] },
                                          { val := fun _ => .bool true, slots := [149, 153] },
                                          { val := fun _ => pA b3, slots := [24, 149] },
                                          { val := fun _ => iV ((mC p.n (q + 1)).1), slots := [149, 155], reads := [0] },
                                          { val := fun _ => iV m, slots := [9, 149] },
                                          { val := fun _ => .bool true, slots := [149, 156, 157] },
                                          { val := fun _ => .bool false, slots := [149, 154, 158] },
                                          { val := fun _ => .bool false, slots := [149, 159] }] [[], [0], [0, 1], [0, 1, 2], [0, 1, 2], [0, 1, 2, 3, 4], [0, 1, 2, 3, 4, 5], [0, 1, 2, 3, 4, 5, 6], [0, 1, 2], [0, 1, 2, 8], [0, 1, 2], [0, 1, 2, 8, 9, 10], [0, 1, 2, 3, 4, 5, 6, 7, 8, 9, 10, 11], [0, 1, 2, 3, 4, 5, 6, 7, 8, 9, 10, 11, 12], [0, 1, 2, 3, 4, 5, 6, 7, 8, 9, 10, 11, 12, 13], [0, 1, 2, 3, 4, 5, 6, 7, 8, 9, 10, 11, 12, 13, 14], [0, 1, 2, 3, 4, 5, 6, 7, 8, 9, 10, 11, 12, 13, 14], [0, 1, 2, 3, 4, 5, 6, 7, 8, 9, 10, 11, 12, 13, 14, 15, 16], [0, 1, 2, 3, 4, 5, 6, 7, 8, 9, 10, 11, 12, 13, 14, 15, 16, 17], [0, 1, 2, 3, 4, 5, 6, 7, 8, 9, 10, 11, 12, 13, 14, 15, 16, 17, 18], [0, 1, 2, 3, 4, 5, 6, 7, 8, 9, 10, 11, 12, 13, 14], [0, 1, 2, 3, 4, 5, 6, 7, 8, 9, 10, 11, 12, 13, 14, 20], [0, 1, 2, 3, 4, 5, 6, 7, 8, 9, 10, 11, 12, 13, 14], [0, 1, 2, 3, 4, 5, 6, 7, 8, 9, 10, 11, 12, 13, 14, 20, 21, 22], [0, 1, 2, 3, 4, 5, 6, 7, 8, 9, 10, 11, 12, 13, 14, 15, 16, 17, 18, 19, 20, 21, 22, 23], [0, 1, 2, 3, 4, 5, 6, 7, 8, 9, 10, 11, 12, 13, 14, 15, 16, 17, 18, 19, 20, 21, 22, 23, 24]] (by kernel_rfl) (by kernel_rfl) (by kernel_rfl) (by kernel_rfl) [4, 8, 9, 10, 11, 13, 14, 15, 16, 17, 20, 21, 22, 125, 126, 24, 160] [0, 1, 2, 3] (by kernel_rfl)
                                          ⟨⟨⟨⟨⟨⟨⟨⟨⟨⟨⟨⟨⟨⟨⟨⟨⟨⟨⟨⟨⟨⟨⟨⟨⟨⟨trivial,
                                          tri_quietW (fun β => []) [] [] (fun β => []) (by kernel_rfl) (fun β extra => by kernel_rfl) (by kernel_rfl) (fun β => trivial)⟩,
                                          tri_quietW (fun β => [(136, .bool false)]) [] [] (fun β => [(.bool false, .bool false)]) (by kernel_rfl) (fun β extra => by kernel_rfl) (by kernel_rfl) (fun β => ⟨rfl, trivial⟩)⟩,
                                          tri_quietW (fun β => []) [] [] (fun β => []) (by kernel_rfl) (fun β extra => by kernel_rfl) (by kernel_rfl) (fun β => trivial)⟩,
                                          tri_quietW (fun β => []) [] [] (fun β => []) (by kernel_rfl) (fun β extra => by kernel_rfl) (by kernel_rfl) (fun β => trivial)⟩,
                                          tri_quietW (fun β => []) [] [] (fun β => []) (by kernel_rfl) (fun β extra => by kernel_rfl) (by kernel_rfl) (fun β => trivial)⟩,
                                          tri_vVW (fun β => iV (((belS p.n m p.es.length : Nat) >>> q : Nat) : Int)) (fun β => by kernel_rfl) (fun β => (binOp .shr 3 (iV ((belS p.n m p.es.length : Nat) : Nat)) (iV (q : Nat)) >>= fun v => pure (Next.value v))) (by kernel_rfl) (fun β extra => by kernel_rfl) (fun β => by kernel_rfl) (fun β w1 k1 h1 => shr_run (belS p.n m p.es.length : Nat) q (by omega))⟩,
                                          tri_quietW (fun β => [(141, iV ((((belS p.n m p.es.length : Nat) >>> q : Nat) &&& 1 : Nat) : Int))]) [] [] (fun β => [(iV (bits .and .i64 (((belS p.n m p.es.length : Nat) >>> q : Nat) : Int) 1), iV ((((belS p.n m p.es.length : Nat) >>> q : Nat) &&& 1 : Nat) : Int))]) (by kernel_rfl) (fun β extra => by kernel_rfl) (by kernel_rfl) (fun β => ⟨(and_nat ((belS p.n m p.es.length : Nat) >>> q : Nat) 1 (by have := Nat.shiftRight_le (belS p.n m p.es.length : Nat) q; omega) (by omega)), trivial⟩)⟩,
                                          tri_quietW (fun β => [(142, .bool false)]) [] [] (fun β => [(.bool (((((belS p.n m p.es.length : Nat) >>> q : Nat) &&& 1 : Nat) : Int) == 1), .bool false)]) (by kernel_rfl) (fun β extra => by kernel_rfl) (by kernel_rfl) (fun β => ⟨((bo (has_bit (belS p.n m p.es.length : Nat) q)).trans (bo hd5)), trivial⟩)⟩,
                                          tri_quietW (fun β => []) [] [] (fun β => []) (by kernel_rfl) (fun β extra => by kernel_rfl) (by kernel_rfl) (fun β => trivial)⟩,
                                          tri_quietW (fun β => []) [0] [0] (fun β => [(pA b3, pA b3)]) (by kernel_rfl) (fun β extra => by kernel_rfl) (by kernel_rfl) (fun β => ⟨rfl, trivial⟩)⟩,
                                          tri_quietW (fun β => []) [] [] (fun β => []) (by kernel_rfl) (fun β extra => by kernel_rfl) (by kernel_rfl) (fun β => trivial)⟩,
                                          tri_quietW (fun β => [(146, .bool false)]) [] [] (fun β => [(.bool (decide (((mC p.n (q + 1)).2) < m)), .bool false)]) (by kernel_rfl) (fun β extra => by kernel_rfl) (by kernel_rfl) (fun β => ⟨(bo hd6), trivial⟩)⟩,
                                          tri_quietW (fun β => [(147, .bool false)]) [] [] (fun β => [(.bool false, .bool false)]) (by kernel_rfl) (fun β extra => by kernel_rfl) (by kernel_rfl) (fun β => ⟨rfl, trivial⟩)⟩,
                                          tri_quietW (fun β => []) [] [] (fun β => []) (by kernel_rfl) (fun β extra => by kernel_rfl) (by kernel_rfl) (fun β => trivial)⟩,
                                          tri_quietW (fun β => []) [] [] (fun β => []) (by kernel_rfl) (fun β extra => by kernel_rfl) (by kernel_rfl) (fun β => trivial)⟩,
                                          tri_quietW (fun β => []) [] [] (fun β => []) (by kernel_rfl) (fun β extra => by kernel_rfl) (by kernel_rfl) (fun β => trivial)⟩,
                                          tri_quietW (fun β => []) [] [] (fun β => []) (by kernel_rfl) (fun β extra => by kernel_rfl) (by kernel_rfl) (fun β => trivial)⟩,
                                          tri_vVW (fun β => iV (((belP p.n m p.es.length : Nat) >>> q : Nat) : Int)) (fun β => by kernel_rfl) (fun β => (binOp .shr 3 (iV ((belP p.n m p.es.length : Nat) : Nat)) (iV (q : Nat)) >>= fun v => pure (Next.value v))) (by kernel_rfl) (fun β extra => by kernel_rfl) (fun β => by kernel_rfl) (fun β w1 k1 h1 => shr_run (belP p.n m p.es.length : Nat) q (by omega))⟩,
                                          tri_quietW (fun β => [(153, iV ((((belP p.n m p.es.length : Nat) >>> q : Nat) &&& 1 : Nat) : Int))]) [] [] (fun β => [(iV (bits .and .i64 (((belP p.n m p.es.length : Nat) >>> q : Nat) : Int) 1), iV ((((belP p.n m p.es.length : Nat) >>> q : Nat) &&& 1 : Nat) : Int))]) (by kernel_rfl) (fun β extra => by kernel_rfl) (by kernel_rfl) (fun β => ⟨(and_nat ((belP p.n m p.es.length : Nat) >>> q : Nat) 1 (by have := Nat.shiftRight_le (belP p.n m p.es.length : Nat) q; omega) (by omega)), trivial⟩)⟩,
                                          tri_quietW (fun β => [(154, .bool true)]) [] [] (fun β => [(.bool (((((belP p.n m p.es.length : Nat) >>> q : Nat) &&& 1 : Nat) : Int) == 1), .bool true)]) (by kernel_rfl) (fun β extra => by kernel_rfl) (by kernel_rfl) (fun β => ⟨((bo (has_bit (belP p.n m p.es.length : Nat) q)).trans (bo hd7)), trivial⟩)⟩,
                                          tri_quietW (fun β => []) [] [] (fun β => []) (by kernel_rfl) (fun β extra => by kernel_rfl) (by kernel_rfl) (fun β => trivial)⟩,
                                          tri_quietW (fun β => []) [0] [0] (fun β => [(pA b3, pA b3)]) (by kernel_rfl) (fun β extra => by kernel_rfl) (by kernel_rfl) (fun β => ⟨rfl, trivial⟩)⟩,
                                          tri_quietW (fun β => []) [] [] (fun β => []) (by kernel_rfl) (fun β extra => by kernel_rfl) (by kernel_rfl) (fun β => trivial)⟩,
                                          tri_quietW (fun β => [(158, .bool true)]) [] [] (fun β => [(.bool (decide (((mC p.n (q + 1)).1) < m)), .bool true)]) (by kernel_rfl) (fun β extra => by kernel_rfl) (by kernel_rfl) (fun β => ⟨(bo hd8), trivial⟩)⟩,
                                          tri_quietW (fun β => [(159, .bool false)]) [] [] (fun β => [(.bool false, .bool false)]) (by kernel_rfl) (fun β extra => by kernel_rfl) (by kernel_rfl) (fun β => ⟨rfl, trivial⟩)⟩,
                                          tri_quietW (fun β => []) [] [] (fun β => []) (by kernel_rfl) (fun β extra => by kernel_rfl) (by kernel_rfl) (fun β => trivial)⟩
                                          (fun β => ⟨[(4, pA b1), (8, .bool false), (9, iV m), (10, iV ((belS p.n m p.es.length : Nat) : Int)), (11, iV ((belP p.n m p.es.length : Nat) : Int)), (13, iV uv), (14, iV ue), (15, iV vv), (16, iV ve), (17, sV g k cap), (20, iV dv), (21, iV de), (22, pA b2), (125, iV (p.es.length : Int)), (126, iV (q : Int)), (24, pA b3), (160, .bool false)], [(b3, aO #[iV ((mC p.n (q + 1)).1), iV ((mC p.n (q + 1)).2)] 23), (b2, aO #[iV (lstS p q).1, iV (lstS p q).2] 23), (g, cO ((D).flatMap inR ++ sp) 3), (b1, aO #[iV p.ll, iV p.lh, iV p.ul, iV p.uh, .slice p.ea p.es.length p.ec] 26)]⟩) (fun β => by kernel_rfl) (fun β4 => ?_)
                    refine run_auto [(162, iV ((q + 1 : Nat) : Int))] 11 [false] [0, 1] [4, 8, 9, 10, 11, 13, 14, 15, 16, 17, 20, 21, 22, 125, 126] [1, 2, 3] (st' := ⟨[(4, pA b1), (8, .bool false), (9, iV m), (10, iV ((belS p.n m p.es.length : Nat) : Int)), (11, iV ((belP p.n m p.es.length : Nat) : Int)), (13, iV uv), (14, iV ue), (15, iV vv), (16, iV ve), (17, sV g k cap), (20, iV dv), (21, iV de), (22, pA b2), (125, iV (p.es.length : Int)), (126, iV ((q + 1 : Nat) : Int))], [(b2, aO #[iV ((mC p.n (q + 1)).1), iV ((mC p.n (q + 1)).2)] 23), (g, cO ((D).flatMap inR ++ sp) 3), (b1, aO #[iV p.ll, iV p.lh, iV p.ul, iV p.uh, .slice p.ea p.es.length p.ec] 26)]⟩) (acc := [(iV (IntKind.i64.wrap ((q : Int) + 1)), iV ((q + 1 : Nat) : Int)), (pA b2, pA b2), (pA b3, pA b3), (.bool false, .bool false)]) (by kernel_rfl) (by kernel_rfl) ⟨(wr (by omega) (by omega)), rfl, rfl, rfl, trivial⟩ ?_
                    exact run_round (by kernel_rfl) (hJ1 (q + 1) (by omega) (by omega))
              | true =>
                have hp6 := of_decide_eq_true hd6
                exfalso
                omega
            | true =>
              have hxhd5 := of_decide_eq_true (hbit.1.symm.trans hd5)
              cases hd6 : (decide (((mC p.n (q + 1)).2) < m)) with
              | false =>
                have hp6 := of_decide_eq_false hd6
                exfalso
                omega
              | true =>
                have hp6 := of_decide_eq_true hd6
                cases hd7 : ((belP p.n m p.es.length : Nat).testBit q) with
                | false =>
                  have hxhd7 := of_decide_eq_false (hbit.2.symm.trans hd7)
                  cases hd8 : (decide (((mC p.n (q + 1)).1) < m)) with
                  | false =>
                    have hp8 := of_decide_eq_false hd8
                    refine drawW 26 [{ val := fun _ => iV 0, slots := [25] },
                                          { val := fun _ => .bool false, slots := [135] },
                                          { val := fun _ => .bool false, slots := [136] },
                                          { val := fun _ => iV ((belS p.n m p.es.length : Nat) : Int), slots := [10, 137] },
                                          { val := fun _ => iV (q : Int), slots := [23, 137] },
                                          { val := fun _ => iV (((belS p.n m p.es.length : Nat) >>> q : Nat) : Int), slots := [137, 138, 139] },
                                          { val := fun _ => iV ((((belS p.n m p.es.length : Nat) >>> q : Nat) &&& 1 : Nat) : Int), slots := [137, 140] },
                                          { val := fun _ => .bool true, slots := [137, 141] },
                                          { val := fun _ => .pointer (some ⟨b3, 1, none⟩), slots := [24, 137] },
                                          { val := fun _ => iV ((mC p.n (q + 1)).2), slots := [137, 143], reads := [0] },
                                          { val := fun _ => iV m, slots := [9, 137] },
                                          { val := fun _ => .bool true, slots := [137, 144, 145] },
                                          { val := fun _ => .bool false, slots := [137, 142, 146] },
                                          { val := fun _ => .bool false, slots := [137, 147] },
                                          { val := fun _ => .bool false, slots := [148] },
                                          { val := fun _ => iV ((belP p.n m p.es.length : Nat) : Int), slots := [11, 149] },
                                          { val := fun _ => iV (q : Int), slots := [23, 149] },
                                          { val := fun _ => iV (((belP p.n m p.es.length : Nat) >>> q : Nat) : Int), slots := [149, 150, 151] },
                                          { val := fun _ => iV ((((belP p.n m p.es.length : Nat) >>> q : Nat) &&& 1 : Nat) : Int), slots := [149, 152] },
                                          { val := fun _ => .bool false, slots := [149, 153] },
                                          { val := fun _ => pA b3, slots := [24, 149] },
                                          { val := fun _ => iV ((mC p.n (q + 1)).1), slots := [149, 155], reads := [0] },
                                          { val := fun _ => iV m, slots := [9, 149] },
                                          { val := fun _ => .bool false, slots := [149, 156, 157] },
                                          { val := fun _ => .bool false, slots := [149, 154, 158] },
                                          { val := fun _ => .bool false, slots := [149, 159] }] [[], [0], [0, 1], [0, 1, 2], [0, 1, 2], [0, 1, 2, 3, 4], [0, 1, 2, 3, 4, 5], [0, 1, 2, 3, 4, 5, 6], [0, 1, 2], [0, 1, 2, 8], [0, 1, 2], [0, 1, 2, 8, 9, 10], [0, 1, 2, 3, 4, 5, 6, 7, 8, 9, 10, 11], [0, 1, 2, 3, 4, 5, 6, 7, 8, 9, 10, 11, 12], [0, 1, 2, 3, 4, 5, 6, 7, 8, 9, 10, 11, 12, 13], [0, 1, 2, 3, 4, 5, 6, 7, 8, 9, 10, 11, 12, 13, 14], [0, 1, 2, 3, 4, 5, 6, 7, 8, 9, 10, 11, 12, 13, 14], [0, 1, 2, 3, 4, 5, 6, 7, 8, 9, 10, 11, 12, 13, 14, 15, 16], [0, 1, 2, 3, 4, 5, 6, 7, 8, 9, 10, 11, 12, 13, 14, 15, 16, 17], [0, 1, 2, 3, 4, 5, 6, 7, 8, 9, 10, 11, 12, 13, 14, 15, 16, 17, 18], [0, 1, 2, 3, 4, 5, 6, 7, 8, 9, 10, 11, 12, 13, 14], [0, 1, 2, 3, 4, 5, 6, 7, 8, 9, 10, 11, 12, 13, 14, 20], [0, 1, 2, 3, 4, 5, 6, 7, 8, 9, 10, 11, 12, 13, 14], [0, 1, 2, 3, 4, 5, 6, 7, 8, 9, 10, 11, 12, 13, 14, 20, 21, 22], [0, 1, 2, 3, 4, 5, 6, 7, 8, 9, 10, 11, 12, 13, 14, 15, 16, 17, 18, 19, 20, 21, 22, 23], [0, 1, 2, 3, 4, 5, 6, 7, 8, 9, 10, 11, 12, 13, 14, 15, 16, 17, 18, 19, 20, 21, 22, 23, 24]] (by kernel_rfl) (by kernel_rfl) (by kernel_rfl) (by kernel_rfl) [4, 8, 9, 10, 11, 13, 14, 15, 16, 17, 20, 21, 22, 125, 126, 24, 160] [0, 1, 2, 3] (by kernel_rfl)
                                          ⟨⟨⟨⟨⟨⟨⟨⟨⟨⟨⟨⟨⟨⟨⟨⟨⟨⟨⟨⟨⟨⟨⟨⟨⟨⟨trivial,
                                          tri_quietW (fun β => []) [] [] (fun β => []) (by kernel_rfl) (fun β extra => by kernel_rfl) (by kernel_rfl) (fun β => trivial)⟩,
                                          tri_quietW (fun β => [(136, .bool false)]) [] [] (fun β => [(.bool false, .bool false)]) (by kernel_rfl) (fun β extra => by kernel_rfl) (by kernel_rfl) (fun β => ⟨rfl, trivial⟩)⟩,
                                          tri_quietW (fun β => []) [] [] (fun β => []) (by kernel_rfl) (fun β extra => by kernel_rfl) (by kernel_rfl) (fun β => trivial)⟩,
                                          tri_quietW (fun β => []) [] [] (fun β => []) (by kernel_rfl) (fun β extra => by kernel_rfl) (by kernel_rfl) (fun β => trivial)⟩,
                                          tri_quietW (fun β => []) [] [] (fun β => []) (by kernel_rfl) (fun β extra => by kernel_rfl) (by kernel_rfl) (fun β => trivial)⟩,
                                          tri_vVW (fun β => iV (((belS p.n m p.es.length : Nat) >>> q : Nat) : Int)) (fun β => by kernel_rfl) (fun β => (binOp .shr 3 (iV ((belS p.n m p.es.length : Nat) : Nat)) (iV (q : Nat)) >>= fun v => pure (Next.value v))) (by kernel_rfl) (fun β extra => by kernel_rfl) (fun β => by kernel_rfl) (fun β w1 k1 h1 => shr_run (belS p.n m p.es.length : Nat) q (by omega))⟩,
                                          tri_quietW (fun β => [(141, iV ((((belS p.n m p.es.length : Nat) >>> q : Nat) &&& 1 : Nat) : Int))]) [] [] (fun β => [(iV (bits .and .i64 (((belS p.n m p.es.length : Nat) >>> q : Nat) : Int) 1), iV ((((belS p.n m p.es.length : Nat) >>> q : Nat) &&& 1 : Nat) : Int))]) (by kernel_rfl) (fun β extra => by kernel_rfl) (by kernel_rfl) (fun β => ⟨(and_nat ((belS p.n m p.es.length : Nat) >>> q : Nat) 1 (by have := Nat.shiftRight_le (belS p.n m p.es.length : Nat) q; omega) (by omega)), trivial⟩)⟩,
                                          tri_quietW (fun β => [(142, .bool true)]) [] [] (fun β => [(.bool (((((belS p.n m p.es.length : Nat) >>> q : Nat) &&& 1 : Nat) : Int) == 1), .bool true)]) (by kernel_rfl) (fun β extra => by kernel_rfl) (by kernel_rfl) (fun β => ⟨((bo (has_bit (belS p.n m p.es.length : Nat) q)).trans (bo hd5)), trivial⟩)⟩,
                                          tri_quietW (fun β => []) [] [] (fun β => []) (by kernel_rfl) (fun β extra => by kernel_rfl) (by kernel_rfl) (fun β => trivial)⟩,
                                          tri_quietW (fun β => []) [0] [0] (fun β => [(pA b3, pA b3)]) (by kernel_rfl) (fun β extra => by kernel_rfl) (by kernel_rfl) (fun β => ⟨rfl, trivial⟩)⟩,
                                          tri_quietW (fun β => []) [] [] (fun β => []) (by kernel_rfl) (fun β extra => by kernel_rfl) (by kernel_rfl) (fun β => trivial)⟩,
                                          tri_quietW (fun β => [(146, .bool true)]) [] [] (fun β => [(.bool (decide (((mC p.n (q + 1)).2) < m)), .bool true)]) (by kernel_rfl) (fun β extra => by kernel_rfl) (by kernel_rfl) (fun β => ⟨(bo hd6), trivial⟩)⟩,
                                          tri_quietW (fun β => [(147, .bool false)]) [] [] (fun β => [(.bool false, .bool false)]) (by kernel_rfl) (fun β extra => by kernel_rfl) (by kernel_rfl) (fun β => ⟨rfl, trivial⟩)⟩,
                                          tri_quietW (fun β => []) [] [] (fun β => []) (by kernel_rfl) (fun β extra => by kernel_rfl) (by kernel_rfl) (fun β => trivial)⟩,
                                          tri_quietW (fun β => []) [] [] (fun β => []) (by kernel_rfl) (fun β extra => by kernel_rfl) (by kernel_rfl) (fun β => trivial)⟩,
                                          tri_quietW (fun β => []) [] [] (fun β => []) (by kernel_rfl) (fun β extra => by kernel_rfl) (by kernel_rfl) (fun β => trivial)⟩,
                                          tri_quietW (fun β => []) [] [] (fun β => []) (by kernel_rfl) (fun β extra => by kernel_rfl) (by kernel_rfl) (fun β => trivial)⟩,
                                          tri_vVW (fun β => iV (((belP p.n m p.es.length : Nat) >>> q : Nat) : Int)) (fun β => by kernel_rfl) (fun β => (binOp .shr 3 (iV ((belP p.n m p.es.length : Nat) : Nat)) (iV (q : Nat)) >>= fun v => pure (Next.value v))) (by kernel_rfl) (fun β extra => by kernel_rfl) (fun β => by kernel_rfl) (fun β w1 k1 h1 => shr_run (belP p.n m p.es.length : Nat) q (by omega))⟩,
                                          tri_quietW (fun β => [(153, iV ((((belP p.n m p.es.length : Nat) >>> q : Nat) &&& 1 : Nat) : Int))]) [] [] (fun β => [(iV (bits .and .i64 (((belP p.n m p.es.length : Nat) >>> q : Nat) : Int) 1), iV ((((belP p.n m p.es.length : Nat) >>> q : Nat) &&& 1 : Nat) : Int))]) (by kernel_rfl) (fun β extra => by kernel_rfl) (by kernel_rfl) (fun β => ⟨(and_nat ((belP p.n m p.es.length : Nat) >>> q : Nat) 1 (by have := Nat.shiftRight_le (belP p.n m p.es.length : Nat) q; omega) (by omega)), trivial⟩)⟩,
                                          tri_quietW (fun β => [(154, .bool false)]) [] [] (fun β => [(.bool (((((belP p.n m p.es.length : Nat) >>> q : Nat) &&& 1 : Nat) : Int) == 1), .bool false)]) (by kernel_rfl) (fun β extra => by kernel_rfl) (by kernel_rfl) (fun β => ⟨((bo (has_bit (belP p.n m p.es.length : Nat) q)).trans (bo hd7)), trivial⟩)⟩,
                                          tri_quietW (fun β => []) [] [] (fun β => []) (by kernel_rfl) (fun β extra => by kernel_rfl) (by kernel_rfl) (fun β => trivial)⟩,
                                          tri_quietW (fun β => []) [0] [0] (fun β => [(pA b3, pA b3)]) (by kernel_rfl) (fun β extra => by kernel_rfl) (by kernel_rfl) (fun β => ⟨rfl, trivial⟩)⟩,
                                          tri_quietW (fun β => []) [] [] (fun β => []) (by kernel_rfl) (fun β extra => by kernel_rfl) (by kernel_rfl) (fun β => trivial)⟩,
                                          tri_quietW (fun β => [(158, .bool false)]) [] [] (fun β => [(.bool (decide (((mC p.n (q + 1)).1) < m)), .bool false)]) (by kernel_rfl) (fun β extra => by kernel_rfl) (by kernel_rfl) (fun β => ⟨(bo hd8), trivial⟩)⟩,
                                          tri_quietW (fun β => [(159, .bool false)]) [] [] (fun β => [(.bool false, .bool false)]) (by kernel_rfl) (fun β extra => by kernel_rfl) (by kernel_rfl) (fun β => ⟨rfl, trivial⟩)⟩,
                                          tri_quietW (fun β => []) [] [] (fun β => []) (by kernel_rfl) (fun β extra => by kernel_rfl) (by kernel_rfl) (fun β => trivial)⟩
                                          (fun β => ⟨[(4, pA b1), (8, .bool false), (9, iV m), (10, iV ((belS p.n m p.es.length : Nat) : Int)), (11, iV ((belP p.n m p.es.length : Nat) : Int)), (13, iV uv), (14, iV ue), (15, iV vv), (16, iV ve), (17, sV g k cap), (20, iV dv), (21, iV de), (22, pA b2), (125, iV (p.es.length : Int)), (126, iV (q : Int)), (24, pA b3), (160, .bool false)], [(b3, aO #[iV ((mC p.n (q + 1)).1), iV ((mC p.n (q + 1)).2)] 23), (b2, aO #[iV (lstS p q).1, iV (lstS p q).2] 23), (g, cO ((D).flatMap inR ++ sp) 3), (b1, aO #[iV p.ll, iV p.lh, iV p.ul, iV p.uh, .slice p.ea p.es.length p.ec] 26)]⟩) (fun β => by kernel_rfl) (fun β4 => ?_)
                    refine run_auto [(162, iV ((q + 1 : Nat) : Int))] 11 [false] [0, 1] [4, 8, 9, 10, 11, 13, 14, 15, 16, 17, 20, 21, 22, 125, 126] [1, 2, 3] (st' := ⟨[(4, pA b1), (8, .bool false), (9, iV m), (10, iV ((belS p.n m p.es.length : Nat) : Int)), (11, iV ((belP p.n m p.es.length : Nat) : Int)), (13, iV uv), (14, iV ue), (15, iV vv), (16, iV ve), (17, sV g k cap), (20, iV dv), (21, iV de), (22, pA b2), (125, iV (p.es.length : Int)), (126, iV ((q + 1 : Nat) : Int))], [(b2, aO #[iV ((mC p.n (q + 1)).1), iV ((mC p.n (q + 1)).2)] 23), (g, cO ((D).flatMap inR ++ sp) 3), (b1, aO #[iV p.ll, iV p.lh, iV p.ul, iV p.uh, .slice p.ea p.es.length p.ec] 26)]⟩) (acc := [(iV (IntKind.i64.wrap ((q : Int) + 1)), iV ((q + 1 : Nat) : Int)), (pA b2, pA b2), (pA b3, pA b3), (.bool false, .bool false)]) (by kernel_rfl) (by kernel_rfl) ⟨(wr (by omega) (by omega)), rfl, rfl, rfl, trivial⟩ ?_
                    exact run_round (by kernel_rfl) (hJ1 (q + 1) (by omega) (by omega))
                  | true =>
                    have hp8 := of_decide_eq_true hd8
                    exfalso
                    omega
                | true =>
                  have hxhd7 := of_decide_eq_true (hbit.2.symm.trans hd7)
                  cases hd8 : (decide (((mC p.n (q + 1)).1) < m)) with
                  | false =>
                    have hp8 := of_decide_eq_false hd8
                    exfalso
                    omega
                  | true =>
                    have hp8 := of_decide_eq_true hd8
                    refine drawW 26 [{ val := fun _ => iV 0, slots := [25] },
                                          { val := fun _ => .bool false, slots := [135] },
                                          { val := fun _ => .bool false, slots := [136] },
                                          { val := fun _ => iV ((belS p.n m p.es.length : Nat) : Int), slots := [10, 137] },
                                          { val := fun _ => iV (q : Int), slots := [23, 137] },
                                          { val := fun _ => iV (((belS p.n m p.es.length : Nat) >>> q : Nat) : Int), slots := [137, 138, 139] },
                                          { val := fun _ => iV ((((belS p.n m p.es.length : Nat) >>> q : Nat) &&& 1 : Nat) : Int), slots := [137, 140] },
                                          { val := fun _ => .bool true, slots := [137, 141] },
                                          { val := fun _ => .pointer (some ⟨b3, 1, none⟩), slots := [24, 137] },
                                          { val := fun _ => iV ((mC p.n (q + 1)).2), slots := [137, 143], reads := [0] },
                                          { val := fun _ => iV m, slots := [9, 137] },
                                          { val := fun _ => .bool true, slots := [137, 144, 145] },
                                          { val := fun _ => .bool false, slots := [137, 142, 146] },
                                          { val := fun _ => .bool false, slots := [137, 147] },
                                          { val := fun _ => .bool false, slots := [148] },
                                          { val := fun _ => iV ((belP p.n m p.es.length : Nat) : Int), slots := [11, 149] },
                                          { val := fun _ => iV (q : Int), slots := [23, 149] },
                                          { val := fun _ => iV (((belP p.n m p.es.length : Nat) >>> q : Nat) : Int), slots := [149, 150, 151] },
                                          { val := fun _ => iV ((((belP p.n m p.es.length : Nat) >>> q : Nat) &&& 1 : Nat) : Int), slots := [149, 152] },
                                          { val := fun _ => .bool true, slots := [149, 153] },
                                          { val := fun _ => pA b3, slots := [24, 149] },
                                          { val := fun _ => iV ((mC p.n (q + 1)).1), slots := [149, 155], reads := [0] },
                                          { val := fun _ => iV m, slots := [9, 149] },
                                          { val := fun _ => .bool true, slots := [149, 156, 157] },
                                          { val := fun _ => .bool false, slots := [149, 154, 158] },
                                          { val := fun _ => .bool false, slots := [149, 159] }] [[], [0], [0, 1], [0, 1, 2], [0, 1, 2], [0, 1, 2, 3, 4], [0, 1, 2, 3, 4, 5], [0, 1, 2, 3, 4, 5, 6], [0, 1, 2], [0, 1, 2, 8], [0, 1, 2], [0, 1, 2, 8, 9, 10], [0, 1, 2, 3, 4, 5, 6, 7, 8, 9, 10, 11], [0, 1, 2, 3, 4, 5, 6, 7, 8, 9, 10, 11, 12], [0, 1, 2, 3, 4, 5, 6, 7, 8, 9, 10, 11, 12, 13], [0, 1, 2, 3, 4, 5, 6, 7, 8, 9, 10, 11, 12, 13, 14], [0, 1, 2, 3, 4, 5, 6, 7, 8, 9, 10, 11, 12, 13, 14], [0, 1, 2, 3, 4, 5, 6, 7, 8, 9, 10, 11, 12, 13, 14, 15, 16], [0, 1, 2, 3, 4, 5, 6, 7, 8, 9, 10, 11, 12, 13, 14, 15, 16, 17], [0, 1, 2, 3, 4, 5, 6, 7, 8, 9, 10, 11, 12, 13, 14, 15, 16, 17, 18], [0, 1, 2, 3, 4, 5, 6, 7, 8, 9, 10, 11, 12, 13, 14], [0, 1, 2, 3, 4, 5, 6, 7, 8, 9, 10, 11, 12, 13, 14, 20], [0, 1, 2, 3, 4, 5, 6, 7, 8, 9, 10, 11, 12, 13, 14], [0, 1, 2, 3, 4, 5, 6, 7, 8, 9, 10, 11, 12, 13, 14, 20, 21, 22], [0, 1, 2, 3, 4, 5, 6, 7, 8, 9, 10, 11, 12, 13, 14, 15, 16, 17, 18, 19, 20, 21, 22, 23], [0, 1, 2, 3, 4, 5, 6, 7, 8, 9, 10, 11, 12, 13, 14, 15, 16, 17, 18, 19, 20, 21, 22, 23, 24]] (by kernel_rfl) (by kernel_rfl) (by kernel_rfl) (by kernel_rfl) [4, 8, 9, 10, 11, 13, 14, 15, 16, 17, 20, 21, 22, 125, 126, 24, 160] [0, 1, 2, 3] (by kernel_rfl)
                                          ⟨⟨⟨⟨⟨⟨⟨⟨⟨⟨⟨⟨⟨⟨⟨⟨⟨⟨⟨⟨⟨⟨⟨⟨⟨⟨trivial,
                                          tri_quietW (fun β => []) [] [] (fun β => []) (by kernel_rfl) (fun β extra => by kernel_rfl) (by kernel_rfl) (fun β => trivial)⟩,
                                          tri_quietW (fun β => [(136, .bool false)]) [] [] (fun β => [(.bool false, .bool false)]) (by kernel_rfl) (fun β extra => by kernel_rfl) (by kernel_rfl) (fun β => ⟨rfl, trivial⟩)⟩,
                                          tri_quietW (fun β => []) [] [] (fun β => []) (by kernel_rfl) (fun β extra => by kernel_rfl) (by kernel_rfl) (fun β => trivial)⟩,
                                          tri_quietW (fun β => []) [] [] (fun β => []) (by kernel_rfl) (fun β extra => by kernel_rfl) (by kernel_rfl) (fun β => trivial)⟩,
                                          tri_quietW (fun β => []) [] [] (fun β => []) (by kernel_rfl) (fun β extra => by kernel_rfl) (by kernel_rfl) (fun β => trivial)⟩,
                                          tri_vVW (fun β => iV (((belS p.n m p.es.length : Nat) >>> q : Nat) : Int)) (fun β => by kernel_rfl) (fun β => (binOp .shr 3 (iV ((belS p.n m p.es.length : Nat) : Nat)) (iV (q : Nat)) >>= fun v => pure (Next.value v))) (by kernel_rfl) (fun β extra => by kernel_rfl) (fun β => by kernel_rfl) (fun β w1 k1 h1 => shr_run (belS p.n m p.es.length : Nat) q (by omega))⟩,
                                          tri_quietW (fun β => [(141, iV ((((belS p.n m p.es.length : Nat) >>> q : Nat) &&& 1 : Nat) : Int))]) [] [] (fun β => [(iV (bits .and .i64 (((belS p.n m p.es.length : Nat) >>> q : Nat) : Int) 1), iV ((((belS p.n m p.es.length : Nat) >>> q : Nat) &&& 1 : Nat) : Int))]) (by kernel_rfl) (fun β extra => by kernel_rfl) (by kernel_rfl) (fun β => ⟨(and_nat ((belS p.n m p.es.length : Nat) >>> q : Nat) 1 (by have := Nat.shiftRight_le (belS p.n m p.es.length : Nat) q; omega) (by omega)), trivial⟩)⟩,
                                          tri_quietW (fun β => [(142, .bool true)]) [] [] (fun β => [(.bool (((((belS p.n m p.es.length : Nat) >>> q : Nat) &&& 1 : Nat) : Int) == 1), .bool true)]) (by kernel_rfl) (fun β extra => by kernel_rfl) (by kernel_rfl) (fun β => ⟨((bo (has_bit (belS p.n m p.es.length : Nat) q)).trans (bo hd5)), trivial⟩)⟩,
                                          tri_quietW (fun β => []) [] [] (fun β => []) (by kernel_rfl) (fun β extra => by kernel_rfl) (by kernel_rfl) (fun β => trivial)⟩,
                                          tri_quietW (fun β => []) [0] [0] (fun β => [(pA b3, pA b3)]) (by kernel_rfl) (fun β extra => by kernel_rfl) (by kernel_rfl) (fun β => ⟨rfl, trivial⟩)⟩,
                                          tri_quietW (fun β => []) [] [] (fun β => []) (by kernel_rfl) (fun β extra => by kernel_rfl) (by kernel_rfl) (fun β => trivial)⟩,
                                          tri_quietW (fun β => [(146, .bool true)]) [] [] (fun β => [(.bool (decide (((mC p.n (q + 1)).2) < m)), .bool true)]) (by kernel_rfl) (fun β extra => by kernel_rfl) (by kernel_rfl) (fun β => ⟨(bo hd6), trivial⟩)⟩,
                                          tri_quietW (fun β => [(147, .bool false)]) [] [] (fun β => [(.bool false, .bool false)]) (by kernel_rfl) (fun β extra => by kernel_rfl) (by kernel_rfl) (fun β => ⟨rfl, trivial⟩)⟩,
                                          tri_quietW (fun β => []) [] [] (fun β => []) (by kernel_rfl) (fun β extra => by kernel_rfl) (by kernel_rfl) (fun β => trivial)⟩,
                                          tri_quietW (fun β => []) [] [] (fun β => []) (by kernel_rfl) (fun β extra => by kernel_rfl) (by kernel_rfl) (fun β => trivial)⟩,
                                          tri_quietW (fun β => []) [] [] (fun β => []) (by kernel_rfl) (fun β extra => by kernel_rfl) (by kernel_rfl) (fun β => trivial)⟩,
                                          tri_quietW (fun β => []) [] [] (fun β => []) (by kernel_rfl) (fun β extra => by kernel_rfl) (by kernel_rfl) (fun β => trivial)⟩,
                                          tri_vVW (fun β => iV (((belP p.n m p.es.length : Nat) >>> q : Nat) : Int)) (fun β => by kernel_rfl) (fun β => (binOp .shr 3 (iV ((belP p.n m p.es.length : Nat) : Nat)) (iV (q : Nat)) >>= fun v => pure (Next.value v))) (by kernel_rfl) (fun β extra => by kernel_rfl) (fun β => by kernel_rfl) (fun β w1 k1 h1 => shr_run (belP p.n m p.es.length : Nat) q (by omega))⟩,
                                          tri_quietW (fun β => [(153, iV ((((belP p.n m p.es.length : Nat) >>> q : Nat) &&& 1 : Nat) : Int))]) [] [] (fun β => [(iV (bits .and .i64 (((belP p.n m p.es.length : Nat) >>> q : Nat) : Int) 1), iV ((((belP p.n m p.es.length : Nat) >>> q : Nat) &&& 1 : Nat) : Int))]) (by kernel_rfl) (fun β extra => by kernel_rfl) (by kernel_rfl) (fun β => ⟨(and_nat ((belP p.n m p.es.length : Nat) >>> q : Nat) 1 (by have := Nat.shiftRight_le (belP p.n m p.es.length : Nat) q; omega) (by omega)), trivial⟩)⟩,
                                          tri_quietW (fun β => [(154, .bool true)]) [] [] (fun β => [(.bool (((((belP p.n m p.es.length : Nat) >>> q : Nat) &&& 1 : Nat) : Int) == 1), .bool true)]) (by kernel_rfl) (fun β extra => by kernel_rfl) (by kernel_rfl) (fun β => ⟨((bo (has_bit (belP p.n m p.es.length : Nat) q)).trans (bo hd7)), trivial⟩)⟩,
                                          tri_quietW (fun β => []) [] [] (fun β => []) (by kernel_rfl) (fun β extra => by kernel_rfl) (by kernel_rfl) (fun β => trivial)⟩,
                                          tri_quietW (fun β => []) [0] [0] (fun β => [(pA b3, pA b3)]) (by kernel_rfl) (fun β extra => by kernel_rfl) (by kernel_rfl) (fun β => ⟨rfl, trivial⟩)⟩,
                                          tri_quietW (fun β => []) [] [] (fun β => []) (by kernel_rfl) (fun β extra => by kernel_rfl) (by kernel_rfl) (fun β => trivial)⟩,
                                          tri_quietW (fun β => [(158, .bool true)]) [] [] (fun β => [(.bool (decide (((mC p.n (q + 1)).1) < m)), .bool true)]) (by kernel_rfl) (fun β extra => by kernel_rfl) (by kernel_rfl) (fun β => ⟨(bo hd8), trivial⟩)⟩,
                                          tri_quietW (fun β => [(159, .bool false)]) [] [] (fun β => [(.bool false, .bool false)]) (by kernel_rfl) (fun β extra => by kernel_rfl) (by kernel_rfl) (fun β => ⟨rfl, trivial⟩)⟩,
                                          tri_quietW (fun β => []) [] [] (fun β => []) (by kernel_rfl) (fun β extra => by kernel_rfl) (by kernel_rfl) (fun β => trivial)⟩
                                          (fun β => ⟨[(4, pA b1), (8, .bool false), (9, iV m), (10, iV ((belS p.n m p.es.length : Nat) : Int)), (11, iV ((belP p.n m p.es.length : Nat) : Int)), (13, iV uv), (14, iV ue), (15, iV vv), (16, iV ve), (17, sV g k cap), (20, iV dv), (21, iV de), (22, pA b2), (125, iV (p.es.length : Int)), (126, iV (q : Int)), (24, pA b3), (160, .bool false)], [(b3, aO #[iV ((mC p.n (q + 1)).1), iV ((mC p.n (q + 1)).2)] 23), (b2, aO #[iV (lstS p q).1, iV (lstS p q).2] 23), (g, cO ((D).flatMap inR ++ sp) 3), (b1, aO #[iV p.ll, iV p.lh, iV p.ul, iV p.uh, .slice p.ea p.es.length p.ec] 26)]⟩) (fun β => by kernel_rfl) (fun β4 => ?_)
                    refine run_auto [(162, iV ((q + 1 : Nat) : Int))] 11 [false] [0, 1] [4, 8, 9, 10, 11, 13, 14, 15, 16, 17, 20, 21, 22, 125, 126] [1, 2, 3] (st' := ⟨[(4, pA b1), (8, .bool false), (9, iV m), (10, iV ((belS p.n m p.es.length : Nat) : Int)), (11, iV ((belP p.n m p.es.length : Nat) : Int)), (13, iV uv), (14, iV ue), (15, iV vv), (16, iV ve), (17, sV g k cap), (20, iV dv), (21, iV de), (22, pA b2), (125, iV (p.es.length : Int)), (126, iV ((q + 1 : Nat) : Int))], [(b2, aO #[iV ((mC p.n (q + 1)).1), iV ((mC p.n (q + 1)).2)] 23), (g, cO ((D).flatMap inR ++ sp) 3), (b1, aO #[iV p.ll, iV p.lh, iV p.ul, iV p.uh, .slice p.ea p.es.length p.ec] 26)]⟩) (acc := [(iV (IntKind.i64.wrap ((q : Int) + 1)), iV ((q + 1 : Nat) : Int)), (pA b2, pA b2), (pA b3, pA b3), (.bool false, .bool false)]) (by kernel_rfl) (by kernel_rfl) ⟨(wr (by omega) (by omega)), rfl, rfl, rfl, trivial⟩ ?_
                    exact run_round (by kernel_rfl) (hJ1 (q + 1) (by omega) (by omega))
        | true =>
          have hp3 := of_decide_eq_true hd3
          have hil : i < xs.length := by omega
          obtain ⟨bx, ox, hba, hcx⟩ := hB (by intro h; rw [h] at hil; cases hil)
          have hc := hcx i hil
          refine run_auto [(63, .bool true)] 12 [true] [] [4, 8, 9, 10, 11, 12, 13, 14, 15, 16, 17, 60, 61, 62, 64] [0, 1] (st' := ⟨[(4, pA b1), (8, .bool false), (9, iV m), (10, iV ((belS p.n m p.es.length : Nat) : Int)), (11, iV ((belP p.n m p.es.length : Nat) : Int)), (12, iV 0), (13, iV uv), (14, iV ue), (15, iV vv), (16, iV ve), (17, sV g k cap), (60, .slice sa xs.length sk), (61, iV (xs.length : Int)), (62, iV (i : Int)), (64, iV (i : Int))], [(g, cO ((Dl xs i).flatMap inR ++ sp) 3), (b1, aO #[iV p.ll, iV p.lh, iV p.ul, iV p.uh, .slice p.ea p.es.length p.ec] 26)]⟩) (acc := [(.bool true, .bool true), (.bool (decide ((i : Int) < (xs.length : Int))), .bool true)]) (by kernel_rfl) (by kernel_rfl) ⟨rfl, (bo hd3), trivial⟩ ?_
          refine run_v (Instr.indexAt 45 (.slice sa xs.length sk) (iV (i : Int)) >>= fun v => pure (Next.value v)) (some 65) (.pointer (some ⟨bx, ox + i, none⟩)) (by kernel_rfl) (fun w1 k1 h1 => (by rw [hba]; exact idx_off (e := 5) (n := 1) (by kernel_rfl) (by kernel_rfl) bx ox xs.length sk .i64 i hil (ox + i) (by omega) w1)) ?_
          refine run_v (Instr.loadAt 5 (.pointer (some ⟨bx, ox + i, none⟩)) >>= fun v => pure (Next.value v)) (some 66) (.int .u8 (elI xs i)) (by kernel_rfl) (fun w1 k1 h1 => load_in (off := 0) k1 (fun h => h) [.int .u8 (elI xs i)] (c1 hc.1) (by kernel_rfl)) ?_
          cases hd4 : (decide ((i : Int) < 10)) with
          | false =>
            have hp4 := of_decide_eq_false hd4
            refine run_auto [(68, .bool false), (75, iV ((i + 1 : Nat) : Int))] 15 [false] [] [4, 8, 9, 10, 11, 12, 13, 14, 15, 16, 17, 60, 61, 62] [0, 1] (st' := ⟨[(4, pA b1), (8, .bool false), (9, iV m), (10, iV ((belS p.n m p.es.length : Nat) : Int)), (11, iV ((belP p.n m p.es.length : Nat) : Int)), (12, iV 0), (13, iV uv), (14, iV ue), (15, iV vv), (16, iV ve), (17, sV g k cap), (60, .slice sa xs.length sk), (61, iV (xs.length : Int)), (62, iV ((i + 1 : Nat) : Int))], [(g, cO ((Dl xs i).flatMap inR ++ sp) 3), (b1, aO #[iV p.ll, iV p.lh, iV p.ul, iV p.uh, .slice p.ea p.es.length p.ec] 26)]⟩) (acc := [(iV (IntKind.i64.wrap ((i : Int) + 1)), iV ((i + 1 : Nat) : Int)), (.bool false, .bool false), (.bool (decide ((i : Int) < 10)), .bool false)]) (by kernel_rfl) (by kernel_rfl) ⟨(wr (by omega) (by omega)), rfl, (bo hd4), trivial⟩ ?_
            have hst := Dl_no (xs := xs) (i := i) (by omega)
            have hj := hJ0 ((i + 1, k, some (g, cap, sp))) (⟨by dsimp only; omega, by rw [hst]; exact hz2, hz4, hz5, hz6, by rw [hst]; exact hz7, hz8⟩) (by dsimp only; omega)
            dsimp only at hj
            rw [hst] at hj
            exact run_round (by kernel_rfl) hj
          | true =>
            have hp4 := of_decide_eq_true hd4
            refine run_auto [(68, .bool true), (71, iV (elI xs i)), (72, iV (elI xs i % 21))] 14 [true] [] [4, 8, 9, 10, 11, 12, 13, 14, 15, 16, 17, 60, 61, 62, 69, 72] [0, 1] (st' := ⟨[(4, pA b1), (8, .bool false), (9, iV m), (10, iV ((belS p.n m p.es.length : Nat) : Int)), (11, iV ((belP p.n m p.es.length : Nat) : Int)), (12, iV 0), (13, iV uv), (14, iV ue), (15, iV vv), (16, iV ve), (17, sV g k cap), (60, .slice sa xs.length sk), (61, iV (xs.length : Int)), (62, iV (i : Int)), (69, sV g k cap), (72, iV (elI xs i % 21))], [(g, cO ((Dl xs i).flatMap inR ++ sp) 3), (b1, aO #[iV p.ll, iV p.lh, iV p.ul, iV p.uh, .slice p.ea p.es.length p.ec] 26)]⟩) (acc := [(iV (Int.tmod (elI xs i) 21), iV (elI xs i % 21)), (iV (IntKind.i64.wrap (elI xs i)), iV (elI xs i)), (.bool true, .bool true), (.bool (decide ((i : Int) < 10)), .bool true)]) (by kernel_rfl) (by kernel_rfl) ⟨(rm 21 (by omega)), (wr (by omega) (by omega)), rfl, (bo hd4), trivial⟩ ?_
            refine run_new (aO #[iV (elI xs i % 21)] 3) (fun b2 => sV b2 1 1) (some 73) (fun _ => by kernel_rfl) (fun b2 hb2 => ?_)
            refine run_app (t := 38) (ty := 38) (e := 3) (n := 1) (z := (iV 0)) (by kernel_rfl) (by kernel_rfl) (by kernel_rfl) rfl (by kernel_rfl) inR inR_len inR_one (some 74) 1 g k 1 cap 1 (Dl xs i) ([(elI xs i % 21)] : List Int) sp ⟨b2, 0, none⟩ (by first | rfl | omega | (simp; done) | (simp; omega)) (by first | rfl | omega | (simp; done) | (simp; omega)) (by kernel_rfl) (by kernel_rfl) hz6 hz7 (fun w1 k1 h1 jq uq hu => by rw [add_none, Nat.zero_add]; exact cells_of_heap (h1 (b2, aO #[iV (elI xs i % 21)] 3) (List.mem_of_getElem? (i := 0) (by kernel_rfl))) jq uq hu) (by omega) hz8 (fun b3 cap3 sp3 hb3 hqb3 hmb3 hlb3 => ?_)
            refine run_auto [(75, iV ((i + 1 : Nat) : Int))] 7 [] [] [4, 8, 9, 10, 11, 12, 13, 14, 15, 16, 17, 60, 61, 62] [0, 2] (st' := ⟨[(4, pA b1), (8, .bool false), (9, iV m), (10, iV ((belS p.n m p.es.length : Nat) : Int)), (11, iV ((belP p.n m p.es.length : Nat) : Int)), (12, iV 0), (13, iV uv), (14, iV ue), (15, iV vv), (16, iV ve), (17, sV b3 (k + 1) cap3), (60, .slice sa xs.length sk), (61, iV (xs.length : Int)), (62, iV ((i + 1 : Nat) : Int))], [(b3, cO ((Dl xs i ++ ([(elI xs i % 21)] : List Int)).flatMap inR ++ sp3) 3), (b1, aO #[iV p.ll, iV p.lh, iV p.ul, iV p.uh, .slice p.ea p.es.length p.ec] 26)]⟩) (acc := [(iV (IntKind.i64.wrap ((i : Int) + 1)), iV ((i + 1 : Nat) : Int))]) (by kernel_rfl) (by kernel_rfl) ⟨(wr (by omega) (by omega)), trivial⟩ ?_
            have hst := Dl_yes hil (show i < 10 by omega)
            have hj := hJ0 ((i + 1, k + 1, some (b3, cap3, sp3))) (⟨by dsimp only; omega, by rw [hst]; rw [List.length_append, hz2]; rfl, by dsimp only; omega, hqb3, hmb3, by rw [hst]; exact hlb3, hb3⟩) (by dsimp only; omega)
            dsimp only at hj
            rw [hst] at hj
            exact run_round (by kernel_rfl) hj

end Go.Proofs.YtdjnkdelmmpleaaGreat
